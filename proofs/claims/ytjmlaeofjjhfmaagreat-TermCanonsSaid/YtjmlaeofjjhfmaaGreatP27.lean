/- The reference notes the places among definitions. -/
import Derived.Test.YtjmlaeofjjhfmaaGreatP26
import Derived.Deep.RegionLaw
import Derived.Deep.RegionHeld3
set_option linter.unusedVariables false
set_option linter.unusedSimpArgs false
namespace Go.Proofs.YtjmlaeofjjhfmaaGreat
open Go.RowKit Go.Shelf Go.Maps

/-- All that was seen, but for what does not matter. -/
def manyL (U : List UInt8 → Int × Int) (ch : List ByteArray) : List Value := ch.map fun c => .int .i64 (U (bytesOf c)).2
def atL (U : List UInt8 → Int × Int) (ch : List ByteArray) : List Value := ch.map fun c => .int .i64 (U (bytesOf c)).1
def SeenAt (U : List UInt8 → Int × Int) (A sb X : Nat) (ch pl : List ByteArray) (W : World) : Prop := ∃ vch vm va vp, Seen A sb X ch pl vch vm va vp false (manyL U ch) (atL U ch) W
theorem hasB_mem {ss : List ByteArray} {s : ByteArray} (h : hasB ss s = true) : bytesOf s ∈ ss.map bytesOf := by
  unfold hasB at h
  obtain ⟨x, hx, he⟩ := List.any_eq_true.1 h
  rw [ByteArray.toList_eq, ByteArray.toList_eq, beq_iff_eq] at he
  exact List.mem_map.2 ⟨x, hx, he⟩
theorem hasB_new {ss l : List ByteArray} {s : ByteArray} (h : ((ss ++ s :: l).map bytesOf).Nodup) : hasB ss s = false := by
  cases hh : hasB ss s with
  | false => rfl
  | true =>
    have h1 := hasB_mem hh
    rw [List.map_append, List.map_cons, List.nodup_append] at h
    exact absurd rfl (h.2.2 _ h1 _ (List.mem_cons_self ..))
theorem placesL_append : ∀ a b : List Clause, placesL (a ++ b) = placesL a ++ placesL b
  | [], b => rfl
  | x :: a, b => by simp [placesL, placesL_append a b]
theorem placesL_take_le (d : List Clause) (k : Nat) : (placesL (d.take k)).length ≤ (placesL d).length := by
  have h := placesL_append (d.take k) (d.drop k)
  rw [List.take_append_drop] at h
  rw [h, List.length_append]; omega
theorem placesL_nil : placesL [] = [] := rfl
/-- A list of strings out of a row. -/
theorem strs_row {w : World} {A : Nat} {v : Value} {ss : List ByteArray} (h : w.ownsRow A 9 1 v ss.length (strVals ss)) (hz : ∀ s ∈ ss, s.size ≤ maxLen) : StrsAt w.heap.size w v ss := strs_of_owns h hz

set_option maxRecDepth 10000 in
set_option maxHeartbeats 4000000 in
/-- A round of name at a place: the two statements that write. -/
theorem name_any (B : Nat) (u : World) (U : List UInt8 → Int × Int) (A sb X : Nat) (hBs : B ≤ sb) (ch : List ByteArray) : ∀ (s : Nat) (d : List Clause), csize d ≤ s → s ≤ 900 → ∀ (a : Option Addr) (cap : Nat) (w : World) (pl : List ByteArray), KeptC B u w → SeenAt U A sb X ch pl w → X < w.heap.size → A ≤ w.heap.size → pl.length + (placesL d).length ≤ 5000 → ((pl ++ placesL d).map bytesOf).Nodup →
    (d.length = 0 ∨ ∃ b off, a = some ⟨b, off, none⟩ ∧ b < B ∧ ClausesAt B u b off d) →
    Calls Tryz.prog 122 #[.pointer (some ⟨sb, 0, none⟩), .slice a d.length cap] w fun e w' => e = .returned (.tuple #[]) ∧ SeenAt U A sb X ch (pl ++ placesL d) w' ∧ Below sb w w' := by
  intro s
  induction s with
  | zero =>
    intro d hd _ a cap w pl hu hs hX hA hn hnd hsrc
    have hd0 : d = [] := by
      have := len_csize d
      exact List.eq_nil_of_length_eq_zero (by omega)
    subst hd0
    go_enter Tryz.func122, Tryz.ntmps122
    go_wp2_with fail
    go_loopw [4] (fun i wr => i = .int .i64 0 ∧ wr = w) (fun _ _ => 0)
    case atStart => exact ⟨rfl, rfl⟩
    case round =>
      obtain ⟨rfl, rfl⟩ := hrel
      go_wp2
      go_end0
      exact ⟨rfl, by rw [placesL_nil, List.append_nil]; exact hs, Below.refl _ _⟩
  | succ s ih =>
    intro d hd hs9 a cap w pl hu hsn hX hA hn hnd hsrc
    obtain ⟨i0, hi, hz0, hz1, hz2⟩ := info_parts info9
    have hdl := len_csize d
    have hpl := placesL_take_le d
    have hu' := Lib.hid hu
    clear hu
    go_enter Tryz.func122, Tryz.ntmps122
    go_wp2_with fail
    go_loopw [4] (fun i wr => ∃ (k : Nat), k ≤ d.length ∧ i = .int .i64 k ∧ SeenAt U A sb X ch (pl ++ placesL (d.take k)) wr ∧ Below sb w wr) (fun i _ => d.length - (intOf i).toNat)
    case atStart => exact ⟨0, by omega, rfl, by simpa [placesL_nil] using hsn, Below.refl _ _⟩
    case round =>
      obtain ⟨k, hk, rfl, hse, hb⟩ := hrel
      have hpk := hpl k
      have hpk1 := hpl (k + 1)
      have hwr := hb.size
      by_cases hlt : k < d.length
      · rcases hsrc with h0 | ⟨b, off, rfl, hbB, hcs⟩
        · omega
        obtain ⟨cc, hcell, hat⟩ := ClausesAt.get d b off hcs k hlt
        have hpart := csize_part hlt
        have htk := placesL_take d k hlt
        obtain ⟨q, hq⟩ : ∃ q, q = d[k] := ⟨_, rfl⟩
        rw [← hq] at hat hpart htk
        obtain ⟨f, t, j, dd, kk⟩ := q
        obtain ⟨htz, _, _, _, rfl, ⟨a0, p0, rfl, _⟩, ⟨a1, p1, rfl, hl1, hx1⟩, ⟨a2, p2, rfl, _⟩⟩ := hat
        have hrd : ∀ W, Below sb w W → W.cell? ⟨b, off + k * 5, none⟩ = some (.int .i64 f) ∧ W.cell? ⟨b, off + k * 5 + 1, none⟩ = some (.string t) ∧ W.cell? ⟨b, off + k * 5 + 3, none⟩ = some (.slice a1 dd.length p1) := fun W h => by
          obtain ⟨c0, c1, _, c3, _⟩ := cells5 (hcell.keep (hu'.out.trans ((Below.keptC h).mono hBs)) hbB)
          exact ⟨c0, c1, c3⟩
        obtain ⟨c0, c1, c3⟩ := hrd wr hb
        have HQ := Lib.hid hq
        clear hcell hcs hq
        by_cases hf : f = 2
        · subst hf
          have e1 : placesC (.mk 2 t j dd kk) = t :: placesL dd := by rw [placesC, if_pos rfl]
          rw [e1] at htk
          have hlen : (placesL (d.take (k + 1))).length = (placesL (d.take k)).length + (1 + (placesL dd).length) := by rw [htk]; simp; omega
          have HTK := Lib.hid htk
          clear htk
          obtain ⟨vch, vm, va, vp, hS⟩ := hse
          obtain ⟨PL, hPL⟩ : ∃ PL, PL = pl ++ placesL (d.take k) := ⟨_, rfl⟩
          have hPLn : PL.length = pl.length + (placesL (d.take k)).length := by rw [hPL, List.length_append]
          rw [← hPL] at hS
          have hPLe := Lib.hid hPL
          obtain ⟨va0, vk0, rfl, _⟩ := owns_cells (by omega) hS.rp
          have hSd := hS.later (Below.refl wr.heap.size wr).drew
          obtain ⟨e0, e1', e2, e3, e4, ef⟩ := hSd.cells
          obtain ⟨d0, d1, d3⟩ := hrd wr.drew hb.drew
          have hhas := has_any _ (.slice va0 PL.length vk0) PL t wr.drew (strs_row hSd.rp hSd.zp)
          have hlow := hS.low
          have hltS := hS.lt
          -- what the second statement and the third one need, from whatever world the first one leaves
          have htail : ∀ (W1 : World), Seen A sb X ch PL vch vm va (.slice va0 PL.length vk0) false (manyL U ch) (atL U ch) W1 → Below sb w W1 → wr.heap.size ≤ W1.heap.size → ∃ g cp w3, (Builtin.append_ #[22, 22] 22 #[.slice va0 PL.length vk0, .slice (some ⟨W1.heap.size, 0, none⟩) 1 1]).run Tryz.prog ((W1.alloc (.cells #[.string t] 9)).drew) = .ok (.slice (some ⟨g, 0, none⟩) (PL.length + 1) cp) w3 ∧
              (W1.drew.cell? ⟨sb, 3, none⟩ = some (.slice va0 PL.length vk0) ∧ W1.drew.cell? ⟨b, off + k * 5 + 1, none⟩ = some (.string t)) ∧ ((W1.alloc (.cells #[.string t] 9)).drew.cell? ⟨sb, 3, none⟩ = some (.slice va0 PL.length vk0) ∧ (W1.alloc (.cells #[.string t] 9)).drew.cell? ⟨b, off + k * 5 + 1, none⟩ = some (.string t)) ∧
              (w3.cell? ⟨sb, 3, none⟩ = some (.slice va0 PL.length vk0) ∧ w3.cell? ⟨b, off + k * 5 + 1, none⟩ = some (.string t)) ∧ w3.frozen? ⟨sb, 3, none⟩ = false ∧
              (w3.setCell ⟨sb, 3, none⟩ (.slice (some ⟨g, 0, none⟩) (PL.length + 1) cp)).cell? ⟨b, off + k * 5 + 1, none⟩ = some (.string t) ∧ (w3.setCell ⟨sb, 3, none⟩ (.slice (some ⟨g, 0, none⟩) (PL.length + 1) cp)).cell? ⟨b, off + k * 5 + 3, none⟩ = some (.slice a1 dd.length p1) ∧
              Calls Tryz.prog 122 #[.pointer (some ⟨sb, 0, none⟩), .slice a1 dd.length p1] (w3.setCell ⟨sb, 3, none⟩ (.slice (some ⟨g, 0, none⟩) (PL.length + 1) cp)) fun e w' => e = .returned (.tuple #[]) ∧ SeenAt U A sb X ch (PL ++ [t] ++ placesL dd) w' ∧ Below sb w w' := by
            intro W1 hS1 hb1 hsz1
            have bA : Below W1.heap.size W1 ((W1.alloc (.cells #[.string t] 9)).drew) := ((Below.refl _ W1).alloc (Nat.le_refl _) _).drew
            have hSA := hS1.later bA
            have hlt1 := hS1.lt
            have eA : ((W1.alloc (.cells #[.string t] 9)).drew).heap.size = W1.heap.size + 1 := by simp
            obtain ⟨v', w3, hr, q1, q2, _, q4⟩ := run_append_own_at (P := Tryz.prog) ((W1.alloc (.cells #[.string t] 9)).drew) A 22 22 9 i0 (.string ⟨#[]⟩) 1 16 Tryz.underlying22 hi hz0 hz1 hz2 rfl (by decide) _ _ _ hSA.rp
              ⟨W1.heap.size, 0, none⟩ 1 1 [.string t] rfl (by
                intro j u hj
                have e : (⟨W1.heap.size, 0, none⟩ : Addr).add j = ⟨W1.heap.size, j, none⟩ := by unfold Addr.add; by_cases h : j = 0 <;> simp [h]
                have e2 : ((W1.alloc (.cells #[.string t] 9)).drew).cell? ⟨W1.heap.size, j, none⟩ = (W1.alloc (.cells #[.string t] 9)).cell? ⟨W1.heap.size, j, none⟩ := rfl
                rw [e, e2, World.cell?_alloc_at _ _ _ _ rfl]
                simpa using hj) (by simp [Value.oneCell']) (by unfold maxLen; omega) (by omega) (by rw [eA]; omega)
            obtain ⟨_, ⟨_, h0⟩ | ⟨gg, cp, cur, hvf, _⟩⟩ := id q1
            · omega
            subst hvf
            have hSB := hSA.setPlaces (x := t) htz (by rw [eA]; omega) (by
              have : strVals (PL ++ [t]) = strVals PL ++ [.string t] := by simp [strVals]
              rw [this]; exact q1) q2 q4
            have hbA := hb1.trans (bA.mono (by omega))
            have hb3 : Below sb w w3 := hbA.grown q2 (by rw [eA]; omega) (fun r e => by have := (hSA.rp.lt r e).1; omega)
            have hbB := hb3.setCell (show sb ≤ (⟨sb, 3, none⟩ : Addr).block from Nat.le_refl _) (.slice (some ⟨gg, 0, none⟩) (PL.length + 1) cp)
            have hrow := fun r e => (hSA.rp.lt r e).1
            have hbox3 := (q2.block sb (by rw [eA]; omega) (fun e => by have := hrow sb e.symm; omega)).trans hSA.box
            have hcs := ih dd (by have h5 : csize (Clause.defs (.mk 2 t j dd kk)) < csize d := hpart; simp only [Clause.defs] at h5; omega) (by omega) a1 p1 (w3.setCell ⟨sb, 3, none⟩ (.slice (some ⟨gg, 0, none⟩) (PL.length + 1) cp)) (PL ++ [t]) (hu'.out.trans ((Below.keptC hbB).mono hBs)) ⟨_, _, _, _, hSB⟩ (by have := hbB.size; omega) (by have := hbB.size; omega) (by simp; omega)
              (by
                have e2 : placesL d = placesL (d.take (k + 1)) ++ placesL (d.drop (k + 1)) := by rw [← placesL_append, List.take_append_drop]
                have e3 : pl ++ placesL d = (PL ++ [t] ++ placesL dd) ++ placesL (d.drop (k + 1)) := by rw [e2, HTK.out, hPL]; simp
                rw [e3, List.map_append] at hnd
                exact (List.nodup_append.1 hnd).1) hx1
            refine ⟨gg, cp, w3, hr, ⟨(hS1.later (Below.refl _ W1).drew).cells.2.2.2.1, (hrd _ hb1.drew).2.1⟩, ⟨hSA.cells.2.2.2.1, (hrd _ hbA).2.1⟩, ⟨by simp [World.cell?, hbox3], (hrd _ hb3).2.1⟩, by simp [World.frozen?, hbox3], (hrd _ hbB).2.1, (hrd _ hbB).2.2, ?_⟩
            refine hcs.mono ?_
            rintro e w' ⟨rfl, h1, h2⟩
            exact ⟨rfl, h1, hbB.trans h2⟩
          have hnd1 : ((PL ++ t :: (placesL dd ++ placesL (d.drop (k + 1)))).map bytesOf).Nodup := by
            have e2 : placesL d = placesL (d.take (k + 1)) ++ placesL (d.drop (k + 1)) := by rw [← placesL_append, List.take_append_drop]
            have e3 : PL ++ t :: (placesL dd ++ placesL (d.drop (k + 1))) = pl ++ placesL d := by rw [e2, HTK.out, hPL]; simp
            rw [e3]; exact hnd
          have hhf := hasB_new hnd1
          rw [hhf] at hhas
          have HT := Lib.hid htail
          have HPN := Lib.hid hPLn
          have HLN := Lib.hid hlen
          have hS1 := (hS.setBad false).later (Below.refl (wr.setCell ⟨sb, 4, none⟩ (.bool false)).heap.size _).drew
          have hb1 := (hb.setCell (show sb ≤ (⟨sb, 4, none⟩ : Addr).block from Nat.le_refl _) (.bool false)).drew
          obtain ⟨_, _, _, l3, l4, lf⟩ := hS1.cells
          obtain ⟨_, m1, m3⟩ := hrd _ hb1
          have HS1 := Lib.hid hS1
          have HS := Lib.hid hS
          have HSd := Lib.hid hSd
          clear htail hnd1 hhf hS1 hS hSd hPL hrd ih hPLn hlen hnd hx1 e1 hpl
          go_wp2
          go_region_held3 (fun w' => w'.cell? ⟨sb, 4, none⟩ = some (.bool false) ∧ w'.cell? ⟨sb, 3, none⟩ = some (.slice va0 PL.length vk0) ∧ w'.cell? ⟨b, off + k * 5 + 1, none⟩ = some (.string t)) (go_keep)
            (first
            | (go_at_call 36; refine hhas.mono ?_; rintro e' w2 ⟨rfl, rfl⟩))
          go_wp2
          clear l3 l4 lf m1 m3 e0 e1' e2 e3 e4 ef d0 d1 d3 c0 c1 c3 hhas
          obtain ⟨W1, hW1⟩ : ∃ W1, W1 = (wr.setCell ⟨sb, 4, none⟩ (.bool false)).drew := ⟨_, rfl⟩
          rw [← hW1]
          rw [← hW1] at hb1 HS1
          have hszW : wr.heap.size ≤ W1.heap.size := by rw [hW1]; simp
          obtain ⟨g, cp, w3, hr, ⟨f1, f2⟩, ⟨f3, f4⟩, ⟨f5, f6⟩, f7, f8, f9, hcall⟩ := HT.out W1 HS1.out hb1 hszW
          clear hW1
          have HC := Lib.hid hcall
          have F8 := Lib.hid f8
          have F9 := Lib.hid f9
          clear hcall f8 f9
          go_region_law (refine step_append_eq rfl (.tmp 40) (.tmp 46) 22 22 rfl rfl rfl hr ?_)
          all_goals
            have f8 := F8.out
            have f9 := F9.out
            have hcall := HC.out
            go_wp2_with (go_at_call 122; refine hcall.mono ?_; clear hcall; rintro e' w5 ⟨rfl, hse5, hb5⟩)
            go_roundw
            case rel => exact ⟨k + 1, by omega, by go_num, by rw [HTK.out]; have e9 : pl ++ (placesL (d.take k) ++ t :: placesL dd) = PL ++ [t] ++ placesL dd := (by rw [hPLe.out]; simp); rw [e9]; exact hse5, hb5⟩
            case measure => simp [intOf]; omega
        · have e1 : placesC (.mk f t j dd kk) = [] := by rw [placesC, if_neg hf]
          rw [e1, List.append_nil] at htk
          have HTK := Lib.hid htk
          clear htk
          go_wp2
          go_roundw
          case rel => exact ⟨k + 1, by omega, by go_num, by rw [HTK.out]; exact hse, hb⟩
          case measure => simp [intOf]; omega
      · obtain rfl : k = d.length := by omega
        rw [List.take_length] at hse
        go_wp2
        go_end0
        exact ⟨rfl, hse, hb⟩

end Go.Proofs.YtjmlaeofjjhfmaaGreat
