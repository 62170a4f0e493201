/- following: the string of letters that comes next. -/
import Derived.Test.YtjmlaeofjjhfmaaGreatP12
import Derived.Laws.IdiomStrings
import Derived.Test.YtjmlaeofjjhfmaaGreatP03
import Derived.RangeFuncWrites
set_option linter.unusedVariables false
set_option linter.unusedSimpArgs false
namespace Go.Proofs.YtjmlaeofjjhfmaaGreat
open Go.RowKit Go.Shelf

def followR : List UInt8 → List UInt8
  | [] => [97]
  | c :: cs => if c.toNat < 122 then (c + 1) :: cs else 97 :: followR cs
def followL (l : List UInt8) : List UInt8 := (followR l.reverse).reverse
theorem followL_nil : followL [] = [97] := rfl
theorem followL_lt (l : List UInt8) (c : UInt8) (h : c.toNat < 122) : followL (l ++ [c]) = l ++ [c + 1] := by
  simp [followL, followR, h]
theorem followL_ge (l : List UInt8) (c : UInt8) (h : ¬ c.toNat < 122) : followL (l ++ [c]) = followL l ++ [97] := by
  simp [followL, followR, h]

/-- The cells of block B hold the bytes Y, and may be written. -/
def BC (w : World) (B : Nat) (Y : List UInt8) : Prop := ∀ j, (h : j < Y.length) → w.cell? ⟨B, j, none⟩ = some (.int .u8 (Y[j].toNat : Int)) ∧ w.frozen? ⟨B, j, none⟩ = false
theorem BC.set {w : World} {B : Nat} {Y : List UInt8} (h : BC w B Y) {k : Nat} (hk : k < Y.length) (x : UInt8) : BC (w.setCell ⟨B, k, none⟩ (.int .u8 (x.toNat : Int))) B (Y.set k x) := by
  intro j hj
  have hj' : j < Y.length := by simpa using hj
  refine ⟨?_, (World.frozen?_setCell _ _ _ _).trans (h j hj').2⟩
  by_cases e : j = k
  · subst e
    rw [World.cell?_setCell_same' _ _ _ (by rw [(h j hj').1]; rfl)]; simp
  · rw [World.cell?_setCell_other]
    · rw [(h j hj').1, List.getElem_set_ne (by omega)]
    · intro h2; cases h2; exact e rfl

theorem take_rep_set (L : List UInt8) (k n : Nat) (hk : k < L.length) (hn : n = L.length) (x : UInt8) :
    (L.take (k + 1) ++ List.replicate (n - (k + 1)) 97).set k x = L.take k ++ [x] ++ List.replicate (n - (k + 1)) 97 := by
  have e1 : (L.take (k + 1)).length = k + 1 := by rw [List.length_take]; omega
  have e2 : (L.take k).length = k := by rw [List.length_take]; omega
  rw [List.set_append_left _ _ (by omega), List.take_succ_eq_append_getElem hk, List.set_append_right _ _ (by omega), e2]
  simp

theorem rep_succ (n k : Nat) (h : k < n) : List.replicate (n - k) (97 : UInt8) = [97] ++ List.replicate (n - (k + 1)) 97 := by
  rw [show n - k = (n - (k + 1)) + 1 by omega, List.replicate_succ]; rfl
theorem bytes_inj' {a b : ByteArray} (h : a.data.toList = b.data.toList) : a = b := by
  obtain ⟨⟨a⟩⟩ := a; obtain ⟨⟨b⟩⟩ := b; simp at h; subst h; rfl

set_option maxRecDepth 10000 in
set_option maxHeartbeats 1000000 in
theorem following_any (s : ByteArray) (w : World) (hs : s.size ≤ 1000000) :
    Calls Tryz.prog 155 #[.string s] w fun e w' => e = .returned (.string (mkB (followL (bytesOf s)))) ∧ Below w.heap.size w w' := by
  obtain ⟨L, hL⟩ : ∃ L, L = bytesOf s := ⟨_, rfl⟩
  have hn : s.size = L.length := by rw [hL]; show s.data.size = s.data.toList.length; simp
  have hconv := run_bytes_of_string (P := Tryz.prog) w 9 146 5 s Tryz.underlying9 Tryz.underlying146 Tryz.underlying5
  obtain ⟨cap, hcap⟩ : ∃ cap, cap = grownCap w s.size 0 5 := ⟨_, rfl⟩
  rw [← hcap] at hconv
  obtain ⟨W1, hW1⟩ : ∃ W1, W1 = (w.drew.alloc (.cells (bytesRow s cap) 5 ((bytesRow s cap).size, (bytesRow s cap).size + 1))) := ⟨_, rfl⟩
  rw [← hW1] at hconv
  have hb1 : Below w.heap.size w W1 := by rw [hW1]; exact ((Below.refl _ w).drew).alloc (by simp) _
  have hbc : BC W1 w.heap.size L := by
    intro j hj
    rw [hW1]
    refine ⟨?_, ?_⟩
    · have h1 := World.cell?_alloc_mark w.drew (bytesRow s cap) 5 ((bytesRow s cap).size, (bytesRow s cap).size + 1) j
      have hj' : j < s.data.size := by rw [hL] at hj; simpa [bytesOf] using hj
      rw [bytesRow_at s cap j hj'] at h1
      subst hL
      exact h1
    · have h1 := World.frozen?_alloc_mark w.drew (bytesRow s cap) 5 (bytesRow s cap).size ((bytesRow s cap).size + 1) j
      have hj' : j < (bytesRow s cap).size := by
        have hj2 : j < s.data.size := by rw [hL] at hj; simpa [bytesOf] using hj
        exact (Array.getElem?_eq_some_iff.1 (bytesRow_at s cap j hj2)).1
      rw [show decide ((bytesRow s cap).size ≤ j) = false by simp; omega] at h1
      exact h1
  rw [hn] at hconv hs
  have hback : ∀ (W : World) (Y : List UInt8), Y.length = L.length → BC W w.heap.size Y → (convert 146 9 (.slice (some ⟨w.heap.size, 0, none⟩) L.length cap)).run Tryz.prog W = .ok (.string (mkB Y)) W := by
    intro W Y hY hc
    rw [← hY]
    refine run_convert_bytes_back W 146 9 5 ⟨w.heap.size, 0, none⟩ cap Y Tryz.underlying146 Tryz.underlying5 Tryz.underlying9 (fun j hj => ?_)
    have e : (⟨w.heap.size, 0, none⟩ : Addr).add j = ⟨w.heap.size, j, none⟩ := by unfold Addr.add; by_cases h : j = 0 <;> simp [h]
    rw [e]; exact (hc j hj).1
  have HL := Lib.hid hL
  clear hW1 hcap hn hL
  go_enter Tryz.func155, Tryz.ntmps155
  go_wp2
  go_loopw [4] (fun i wr => ∃ (m : Nat), m ≤ L.length ∧ i = .int .i64 ((m : Int) - 1) ∧ BC wr w.heap.size (L.take m ++ List.replicate (L.length - m) 97) ∧ followL L = followL (L.take m) ++ List.replicate (L.length - m) 97 ∧ Below w.heap.size w wr) (fun i _ => (intOf i + 1).toNat)
  case atStart => exact ⟨L.length, Nat.le_refl _, by first | rfl | go_num, by simpa using hbc, by simp, hb1⟩
  case round =>
    obtain ⟨m, hm, rfl, hc, hf, hb⟩ := hrel
    have HF := Lib.hid hf; clear hf
    cases m with
    | zero =>
      simp only [List.take_zero, Nat.sub_zero, List.nil_append] at hc HF
      have hk := hback _ _ (by simp) hc
      have hsz : ¬ 9223372036854775807 < 1 + (mkB (List.replicate L.length 97)).size := by
        have : (mkB (List.replicate L.length 97)).size = L.length := by show (List.replicate L.length 97).toArray.size = _; simp
        omega
      go_wp2
      go_ret
      refine ⟨?_, hb⟩
      rw [← HL.out, HF.out]
      show Ending.returned (.string ((⟨#[97]⟩ : ByteArray) ++ mkB (List.replicate L.length 97))) = _
      have e : (⟨#[97]⟩ : ByteArray) ++ mkB (List.replicate L.length 97) = mkB ([97] ++ List.replicate L.length 97) := by
        apply bytes_inj'
        simp [mkB]
      rw [e, followL_nil]
    | succ k =>
      have hk : k < L.length := by omega
      rw [show (((k + 1 : Nat) : Int) - 1) = (k : Int) by omega]
      have hlen : (L.take (k + 1) ++ List.replicate (L.length - (k + 1)) 97).length = L.length := by simp; omega
      have hck := hc k (by omega)
      have hget : (L.take (k + 1) ++ List.replicate (L.length - (k + 1)) 97)[k]'(by omega) = L[k] := by
        rw [List.getElem_append_left (by simp; omega)]; simp
      rw [hget] at hck
      obtain ⟨hk1, hk2⟩ := hck
      have htk := List.take_succ_eq_append_getElem hk
      obtain ⟨c, hcc⟩ : ∃ c, c = L[k] := ⟨_, rfl⟩
      rw [← hcc] at hk1 htk
      by_cases hlt : c.toNat < 122
      · have h1 : ((c.toNat : Int) < 122) := by omega
        have hw8 : IntKind.u8.wrap ((c.toNat : Int) + 1) = (c.toNat : Int) + 1 := by
          unfold IntKind.wrap; simp [IntKind.bits, IntKind.signed]; omega
        have hc1 : ((c + 1).toNat : Int) = (c.toNat : Int) + 1 := by
          rw [UInt8.toNat_add]; simp; omega
        have hset := hc.set (by omega : k < _) (c + 1)
        rw [take_rep_set L k _ hk rfl, hc1] at hset
        have hk3 := hback _ _ (by simp; omega) hset
        have hres : Hid (followL L = L.take k ++ [c + 1] ++ List.replicate (L.length - (k + 1)) 97) := Lib.hid (by rw [HF.out, htk, followL_lt _ _ hlt])
        clear hset hc hget hlen HF htk hcc
        go_wp2
        go_ret
        exact ⟨by rw [← HL.out, hres.out, List.append_assoc]; rfl, hb.setCell (by simp) _⟩
      · have h1 : ¬ ((c.toNat : Int) < 122) := by omega
        have hset := hc.set (by omega : k < _) 97
        rw [take_rep_set L k _ hk rfl] at hset
        have hres : Hid (followL L = followL (L.take k) ++ [97] ++ List.replicate (L.length - (k + 1)) 97) := Lib.hid (by rw [HF.out, htk, followL_ge _ _ hlt])
        clear hc hget hlen HF htk hcc
        go_wp2
        go_roundw
        case rel => exact ⟨k, by omega, by go_num, by rw [rep_succ L.length k hk]; simpa [List.append_assoc] using hset, by rw [hres.out, rep_succ L.length k hk]; simp [List.append_assoc], hb.setCell (by simp) _⟩
        case measure => simp [intOf]

end Go.Proofs.YtjmlaeofjjhfmaaGreat
/- The strings of letters in their order. -/
namespace Go.Proofs.YtjmlaeofjjhfmaaGreat
open Go.RowKit Go.Shelf

def lettersL (l : List UInt8) : Prop := ∀ c ∈ l, 97 ≤ c.toNat ∧ c.toNat ≤ 122
def valR : List UInt8 → Nat
  | [] => 0
  | c :: cs => (c.toNat - 96) + 26 * valR cs
def valL (l : List UInt8) : Nat := valR l.reverse

theorem valR_follow : ∀ l : List UInt8, lettersL l → valR (followR l) = valR l + 1 ∧ lettersL (followR l)
  | [], _ => ⟨rfl, by intro c hc; simp [followR] at hc; subst hc; decide⟩
  | c :: cs, h => by
    have hc := h c (by simp)
    have hcs : lettersL cs := fun d hd => h d (by simp [hd])
    unfold followR
    split
    · rename_i hlt
      have e : (c + 1).toNat = c.toNat + 1 := by rw [UInt8.toNat_add]; simp; omega
      refine ⟨by simp only [valR, e]; omega, ?_⟩
      intro d hd
      rcases List.mem_cons.1 hd with hd | hd
      · subst hd; omega
      · exact hcs d hd
    · obtain ⟨h1, h2⟩ := valR_follow cs hcs
      refine ⟨by simp only [valR, h1]; have : (97 : UInt8).toNat = 97 := rfl; omega, ?_⟩
      intro d hd
      rcases List.mem_cons.1 hd with hd | hd
      · subst hd; decide
      · exact h2 d hd
theorem valL_follow (l : List UInt8) (h : lettersL l) : valL (followL l) = valL l + 1 ∧ lettersL (followL l) := by
  have hr : lettersL l.reverse := fun c hc => h c (List.mem_reverse.1 hc)
  obtain ⟨h1, h2⟩ := valR_follow l.reverse hr
  refine ⟨by simp [valL, followL, h1], fun c hc => h2 c ?_⟩
  simpa [followL] using hc
theorem valR_ge : ∀ l : List UInt8, lettersL l → l.length ≤ valR l
  | [], _ => Nat.le_refl _
  | c :: cs, h => by
    have hc := h c (by simp)
    have := valR_ge cs (fun d hd => h d (by simp [hd]))
    simp only [valR, List.length_cons]; omega
theorem valR_pow : ∀ (l : List UInt8), lettersL l → ∀ m, l.length = m + 1 → 26 ^ m ≤ valR l
  | [], _, m, h => by simp at h
  | c :: cs, h, m, hm => by
    have hc := h c (by simp)
    cases m with
    | zero => simp only [valR]; omega
    | succ m =>
      have := valR_pow cs (fun d hd => h d (by simp [hd])) m (by simpa using hm)
      simp only [valR, Nat.pow_succ]; omega
theorem valR_lt : ∀ (l : List UInt8), lettersL l → valR l < 27 ^ l.length
  | [], _ => by simp [valR]
  | c :: cs, h => by
    have hc := h c (by simp)
    have := valR_lt cs (fun d hd => h d (by simp [hd]))
    simp only [valR, List.length_cons, Nat.pow_succ]; omega

def strN : Nat → List UInt8
  | 0 => [97]
  | n + 1 => followL (strN n)
theorem strN_val : ∀ n, valL (strN n) = n + 1 ∧ lettersL (strN n)
  | 0 => ⟨rfl, by intro c hc; simp [strN] at hc; subst hc; decide⟩
  | n + 1 => by
    obtain ⟨h1, h2⟩ := strN_val n
    obtain ⟨h3, h4⟩ := valL_follow _ h2
    exact ⟨by show valL (followL _) = _; rw [h3, h1], h4⟩
theorem strN_long {n : Nat} (h : 8 < (strN n).length) : 100000 ≤ n := by
  obtain ⟨h1, h2⟩ := strN_val n
  have hr : lettersL (strN n).reverse := fun c hc => h2 c (List.mem_reverse.1 hc)
  obtain ⟨m, hm⟩ : ∃ m, (strN n).reverse.length = m + 1 := ⟨(strN n).length - 1, by rw [List.length_reverse]; omega⟩
  have h3 := valR_pow _ hr m hm
  have h4 : 8 ≤ m := by rw [List.length_reverse] at hm; omega
  have h5 : 26 ^ 8 ≤ 26 ^ m := Nat.pow_le_pow_right (by decide) h4
  have h6 : valR (strN n).reverse = n + 1 := h1
  have h7 : (26 : Nat) ^ 8 = 208827064576 := by decide
  omega
theorem strN_short {n : Nat} (h : (strN n).length ≤ 8) : n < 300000000000 := by
  obtain ⟨h1, h2⟩ := strN_val n
  have hr : lettersL (strN n).reverse := fun c hc => h2 c (List.mem_reverse.1 hc)
  have h3 := valR_lt _ hr
  have h4 : 27 ^ (strN n).reverse.length ≤ 27 ^ 8 := Nat.pow_le_pow_right (by decide) (by rw [List.length_reverse]; exact h)
  have h6 : valR (strN n).reverse = n + 1 := h1
  have h7 : (27 : Nat) ^ 8 = 282429536481 := by decide
  omega
theorem strN_len9 : ∀ n, (strN n).length ≤ n + 1 := fun n => by
  obtain ⟨h1, h2⟩ := strN_val n
  have hr : lettersL (strN n).reverse := fun c hc => h2 c (List.mem_reverse.1 hc)
  have h3 := valR_ge _ hr
  have h6 : valR (strN n).reverse = n + 1 := h1
  rw [List.length_reverse] at h3; omega
end Go.Proofs.YtjmlaeofjjhfmaaGreat
/- allNames: the iterator. -/
namespace Go.Proofs.YtjmlaeofjjhfmaaGreat
open Go.RowKit Go.Shelf
attribute [local go_sem] Oper.semAt_some

def notWord (l : List UInt8) : Bool := !inSet words l
def pref (j : Nat) : List ByteArray := (((List.range j).map strN).filter notWord).map mkB
theorem pref_succ (j : Nat) : pref (j + 1) = pref j ++ (if notWord (strN j) then [mkB (strN j)] else []) := by
  unfold pref
  rw [List.range_succ, List.map_append, List.filter_append, List.map_append]
  congr 1
  simp only [List.map_cons, List.map_nil, List.filter_cons, List.filter_nil]
  split <;> rfl
theorem pref_len (j : Nat) : (pref j).length ≤ j := by
  unfold pref
  rw [List.length_map]
  exact Nat.le_trans (List.length_filter_le _ _) (by simp)
theorem mkB_size (l : List UInt8) : (mkB l).size = l.length := by show l.toArray.size = _; simp
def valV : Value → Nat
  | .string s => valL (bytesOf s)
  | _ => 0

theorem SetAt.walks {w w' : World} {b n : Nat} {acc : List (List UInt8)} (h : SetAt w b n acc) (k : KeepsWalks w w') : SetAt w' b n acc := by
  obtain ⟨es, clock, hb, r⟩ := h
  exact ⟨es, clock, k.same b _ hb rfl, r⟩

abbrev Nm := { s : ByteArray // s.size ≤ 100 }
set_option maxRecDepth 100000 in
set_option maxHeartbeats 1000000 in
theorem names1_in (n l : Nat) (J Jx : List Nm → World → Prop) (hJ : ∀ pre A W, J pre A → A.grownBy W none → J pre W)
    (hY : ∀ m pre (x : Nm) W, J pre W → pre.length < 300000000000 → YieldAt Fence.wide m Tryz.prog l #[.string x.1] W fun e W' =>
      (e = .returned (.bool true) ∧ J (pre ++ [x]) W' ∧ KeepsWalks W W') ∨ (e = .returned (.bool false) ∧ Jx (pre ++ [x]) W'))
    (W : World) (h0 : J [] W) :
    CallsIn Fence.wide n Tryz.prog 154 #[.func (.yield l) #[] #[]] W fun e W' => (∃ v, e = .returned v) ∧
      ((∃ xs : List Nm, (∃ j, 100000 ≤ j ∧ xs.map (·.1) = pref j) ∧ J xs W') ∨ (∃ pre : List Nm, (∃ j, pre.map (·.1) = pref j) ∧ Jx pre W')) := by
  have hdd : ∀ k : Nat, (Fence.wide.depth.isSome = true → 1 ≤ k) := fun k h => by cases h
  have hF : ∀ k, Fence.wide.fn k := fun _ => trivial
  have hkw := keywords_any W
  refine callsIn_of_wp Tryz.func154 rfl trivial ?_ rfl
  simp only [Tryz.ntmps154, List.size_toArray, List.length_cons, List.length_nil, Nat.reduceAdd, Nat.reduceSub, Array.replicate_succ, Array.replicate_zero, List.push_toArray, List.append_toArray, List.nil_append, List.cons_append]
  gi_wp2_with (refine ⟨hdd _, ?_⟩; refine (callsIn_wide.2 hkw).mono ?_; clear hkw; rintro e W1 ⟨rfl, hs1, hb1⟩)
  have h1 := hJ _ _ _ h0 (grown_of_below hb1)
  clear h0
  gi_loopw [3] (fun s wr => ∃ (j : Nat) (xs : List Nm), s = .string (mkB (strN j)) ∧ Hid (xs.map (·.1) = pref j) ∧ J xs wr ∧ SetAt wr W.heap.size 10 words) (fun s _ => 300000000001 - valV s)
  case atStart => exact ⟨0, [], rfl, Lib.hid (by simp [pref]), h1, hs1⟩
  case round =>
    obtain ⟨j, xs, rfl, hxs, hJr, hsr⟩ := hrel
    have hxl : xs.length ≤ j := by have := congrArg List.length hxs.out; rw [List.length_map] at this; have := pref_len j; omega
    have hval : valV (.string (mkB (strN j))) = j + 1 := by show valL (bytesOf (mkB (strN j))) = _; rw [bytesOf_mkB]; exact (strN_val j).1
    have hval2 : valV (.string (mkB (strN (j + 1)))) = j + 2 := by show valL (bytesOf (mkB (strN (j + 1)))) = _; rw [bytesOf_mkB]; exact (strN_val (j + 1)).1
    have hsz := mkB_size (strN j)
    have hps := pref_succ j
    by_cases hlen : (strN j).length ≤ 8
    · have hj := strN_short hlen
      have hlook := hsr.look (k := mkB (strN j)) (by rw [hsz]; unfold maxLen; omega)
      have hnw : notWord (strN j) = !inSet words (strN j) := rfl
      have hfo := fun w => following_any (mkB (strN j)) w (by rw [hsz]; omega)
      rw [show (bytesOf (mkB (strN j))) = strN j from bytesOf_mkB _, show mkB (followL (strN j)) = mkB (strN (j + 1)) from rfl] at hfo
      rw [show (mkB (strN j)).data.toList = strN j from bytesOf_mkB _] at hlook
      obtain ⟨s, hs⟩ : ∃ s, s = mkB (strN j) := ⟨_, rfl⟩
      obtain ⟨s', hs'⟩ : ∃ s, s = mkB (strN (j + 1)) := ⟨_, rfl⟩
      rw [← hs] at hlook hfo hsz hps hval ⊢
      rw [← hs'] at hfo hval2
      have hs2 := hsz
      have hle : ((s.size : Int) ≤ 8) := by omega
      have HV := Lib.hid hval; have HV2 := Lib.hid hval2; have HPS := Lib.hid hps; have HS' := Lib.hid hs'; have HL := Lib.hid hlen; have HS := Lib.hid hs; clear hs
      cases hin : inSet words (strN j) with
      | true =>
        rw [hin] at hlook
        have hpj : Hid (pref (j + 1) = pref j) := Lib.hid (by rw [hps, hnw, hin]; simp)
        clear hval hval2 hps hs' hnw hin hsz hlen hY hs2
        gi_wp2_with (refine ⟨hdd _, ?_⟩; refine (callsIn_wide.2 (hfo _)).mono ?_; clear hfo; rintro e W2 ⟨rfl, hb2⟩)
        go_roundw
        case rel => exact ⟨j + 1, xs, by rw [HS'.out], Lib.hid (by rw [hpj.out, hxs.out]), hJ _ _ _ hJr (grown_of_below hb2), hsr.kept (grown_of_below hb2) (by simp)⟩
        case measure => rw [HV.out, HV2.out]; omega
      | false =>
        rw [hin] at hlook
        have hpj : Hid (pref (j + 1) = pref j ++ [s]) := Lib.hid (by rw [hps, hnw, hin]; simp)
        have hx100 : s.size ≤ 100 := by rw [hs2]; omega
        obtain ⟨fn, tmps, assign, body, hy, hR⟩ := hY (n - 1) xs ⟨s, hx100⟩ wr hJr (by omega)
        obtain ⟨x0, hx0⟩ : ∃ x : Nm, x = ⟨s, hx100⟩ := ⟨_, rfl⟩
        have hx1 : Hid (x0.1 = s) := Lib.hid (by rw [hx0])
        rw [← hx0] at hR
        clear hx0
        clear hval hval2 hps hs' hnw hin hsz hlen hY hs2
        gi_wp2_with (first
          | ((try refine ⟨hdd _, ?_⟩); refine hR.mono ?_; clear hR; rintro e W2 (⟨rfl, hJ2, hk2⟩ | ⟨rfl, hx2⟩))
          | (refine ⟨hdd _, ?_⟩; refine (callsIn_wide.2 (hfo _)).mono ?_; clear hfo; rintro e W3 ⟨rfl, hb3⟩))
        · go_roundw
          case rel => exact ⟨j + 1, xs ++ [x0], by rw [HS'.out], Lib.hid (by rw [hpj.out, List.map_append, hxs.out, List.map_cons, List.map_nil, hx1.out]), hJ _ _ _ hJ2 (grown_of_below hb3), (hsr.walks hk2).kept (grown_of_below hb3) (by simp)⟩
          case measure => rw [HV.out, HV2.out]; omega
        · (try simp only [Exit.inBlock, Exit.then])
          refine bodyPost_ret (results_none rfl _ _ _) rfl ?_
          exact ⟨⟨_, rfl⟩, .inr ⟨_, ⟨j + 1, by rw [hpj.out, List.map_append, hxs.out, List.map_cons, List.map_nil, hx1.out]⟩, hx2⟩⟩
    · have hj := strN_long (Nat.lt_of_not_le hlen)
      have hle : ¬ (((mkB (strN j)).size : Int) ≤ 8) := by rw [hsz]; omega
      clear hsz hval hval2 hps
      gi_wp2
      go_end0
      exact ⟨⟨_, rfl⟩, .inl ⟨_, ⟨j, hj, hxs.out⟩, hJr⟩⟩

theorem names_stops (n : Nat) (w : World) :
    SeqStopsK Fence.wide n Tryz.prog 154 #[] (fun s : Nm => #[.string s.1]) KeepsWalks (fun xs => ∃ j, 100000 ≤ j ∧ xs.map (·.1) = pref j) (fun xs => ∃ j, xs.map (·.1) = pref j) 300000000000 w :=
  fun l J Jx W hW hJ _ hY h0 =>
    names1_in n l J Jx (fun pre A W' h hg => hJ pre A W' none h hg (by simp)) (fun m pre x W1 a b => yield_room m (hY pre x W1 a b)) W h0

end Go.Proofs.YtjmlaeofjjhfmaaGreat
/- unused: the first name that is not used. -/
namespace Go.Proofs.YtjmlaeofjjhfmaaGreat
open Go.RowKit Go.Shelf
attribute [local go_sem] Oper.semAt_some

theorem Tryz.results56 : Tryz.f56.results = #[.cell 2 9] := by kernel_rfl
theorem pref_mem {j i : Nat} (h : i < j) (hw : notWord (strN i) = true) : mkB (strN i) ∈ pref j := by
  unfold pref
  exact List.mem_map.2 ⟨strN i, List.mem_filter.2 ⟨List.mem_map.2 ⟨i, List.mem_range.2 h, rfl⟩, hw⟩, rfl⟩
theorem pref_last : ∀ (j : Nat) (P : List ByteArray) (x : ByteArray), pref j = P ++ [x] → ∃ i, x = mkB (strN i) ∧ notWord (strN i) = true ∧ P = pref i
  | 0, P, x, h => by simp [pref] at h
  | j + 1, P, x, h => by
    rw [pref_succ] at h
    cases hw : notWord (strN j) with
    | true =>
      rw [hw, if_pos rfl] at h
      obtain ⟨h1, h2⟩ := List.append_inj' h rfl
      exact ⟨j, by simpa using h2.symm, hw, h1.symm⟩
    | false =>
      rw [hw, if_neg (by decide), List.append_nil] at h
      exact pref_last j P x h

theorem allNames_in (n : Nat) (w : World) : CallsIn Fence.wide n Tryz.prog 110 #[] w fun e w' => e = .returned (.func (.func 154) #[] #[]) ∧ w' = w := by
  refine callsIn_of_wp Tryz.func110 rfl trivial ?_ rfl
  simp only [Tryz.ntmps110, List.size_toArray, List.length_cons, List.length_nil, Nat.reduceAdd, Nat.reduceSub, Array.replicate_succ, Array.replicate_zero, List.push_toArray, List.append_toArray, List.nil_append, List.cons_append]
  gi_wp2
  go_ret
  exact ⟨rfl, rfl⟩

set_option maxRecDepth 100000 in
set_option maxHeartbeats 1000000 in
theorem unused_in (n : Nat) (hn : 3 ≤ n) (w : World) (b m : Nat) (f : List UInt8 → Bool) (hS : SetF w b m f) (j0 : Nat) (hj0 : j0 < 5000) (hg0 : notWord (strN j0) = true ∧ f (strN j0) = false) :
    CallsIn Fence.wide n Tryz.prog 56 #[.map (some b)] w fun e w' => ∃ j, e = .returned (.string (mkB (strN j))) ∧ (notWord (strN j) = true ∧ f (strN j) = false) ∧ (∀ i, i < j → ¬ (notWord (strN i) = true ∧ f (strN i) = false)) ∧ Below w.heap.size w w' := by
  have hdd : ∀ k : Nat, (Fence.wide.depth.isSome = true → 1 ≤ k) := fun k h => by cases h
  have h1 : 1 ≤ n := by omega
  have hF : ∀ k, Fence.wide.fn k := fun _ => trivial
  refine callsIn_of_wp_marks Tryz.func56 rfl trivial ?_ rfl
  simp only [Tryz.ntmps56, List.size_toArray, List.length_cons, List.length_nil, Nat.reduceAdd, Nat.reduceSub, Array.replicate_succ, Array.replicate_zero, List.push_toArray, List.append_toArray, List.nil_append, List.cons_append]
  gi_wp2_with (gi_at_call 110; refine (allNames_in (n - 1) _).mono ?_; rintro e w' ⟨rfl, rfl⟩)
  obtain ⟨W0, hW0⟩ : ∃ W0, W0 = ((w.alloc (.cells #[.map (some b)] 70)).alloc (.cells #[.string ⟨#[]⟩] 9)) := ⟨_, rfl⟩
  have hsz : W0.heap.size = w.heap.size + 2 := by rw [hW0]; simp
  have hb0 : Below w.heap.size w W0 := by rw [hW0]; exact ((Below.refl _ w).alloc (Nat.le_refl _) _).alloc (by simp) _
  have hS0 : SetF W0 b m f := by rw [hW0]; exact (hS.kept (World.grownBy_alloc _ _ none) (by simp)).kept (World.grownBy_alloc _ _ none) (by simp)
  have c0 : W0.cell? ⟨w.heap.size, 0, none⟩ = some (.map (some b)) := by
    rw [hW0, World.cell?_alloc_past _ _ _ (by simp), World.cell?_alloc_at _ _ _ _ rfl]; rfl
  have c1 : W0.cell? ⟨w.heap.size + 1, 0, none⟩ = some (.string ⟨#[]⟩) ∧ W0.frozen? ⟨w.heap.size + 1, 0, none⟩ = false := by
    rw [hW0]; exact ⟨by rw [World.cell?_alloc_at _ _ _ _ (by simp)]; rfl, by rw [World.frozen?_alloc_at _ _ _ _ (by simp)]⟩
  have hbw := hS.lt
  rw [← hW0]
  have HW := Lib.hid hW0; clear hW0
  refine wpIn_rangeFunc_ownG rfl h1 (gf := 154) (lb := #[]) rfl trivial (enters_of Tryz.func154 (by kernel_rfl) rfl)
    (names_stops (n - 1) W0) KeepsWalks.trans (fun W l o o' _ h1 _ h3 => KeepsWalks.putObj o' h1 h3) (Below.refl _ _) (fun _ => rfl)
    (fun pre W => ((∀ x ∈ pre, f (bytesOf x.1) = true) ∧ SetF W b m f ∧ W.cell? ⟨w.heap.size, 0, none⟩ = some (.map (some b)) ∧ W.cell? ⟨w.heap.size + 1, 0, none⟩ = some (.string ⟨#[]⟩) ∧ W.frozen? ⟨w.heap.size + 1, 0, none⟩ = false) ∧ Below w.heap.size w W)
    (fun c pre W => (c = .ret ∧ ∃ pre0 x, pre = pre0 ++ [x] ∧ (∀ y ∈ pre0, f (bytesOf y.1) = true) ∧ f (bytesOf x.1) = false ∧ W.cell? ⟨w.heap.size + 1, 0, none⟩ = some (.string x.1)) ∧ Below w.heap.size w W)
    (OwnFrom.and (fun s X Y row hs hg hr => ⟨hs.1, hs.2.1.kept hg (fun e => by have := (hr _ e.symm).1; omega), cell_kept hs.2.2.1 hg (fun r e => (hr r e).2), cell_kept hs.2.2.2.1 hg (fun r e => (hr r e).2), (frozen_kept hs.2.2.2.1 hg (fun r e => (hr r e).2)).trans hs.2.2.2.2⟩) (ownFrom_below (Nat.le_refl _) (by omega)))
    (fun c => OwnFrom.and (fun s X Y row hs hg hr => by
      obtain ⟨h1, p0, x, h2, h3, h4, h5⟩ := hs
      exact ⟨h1, p0, x, h2, h3, h4, cell_kept h5 hg (fun r e => (hr r e).2)⟩) (ownFrom_below (Nat.le_refl _) (by omega)))
    ⟨⟨by simp, hS0, c0, c1.1, c1.2⟩, hb0⟩
    (fun x' => { tmps := #[.map (some b), .pointer (some ⟨w.heap.size, 0, none⟩), .pointer (some ⟨w.heap.size + 1, 0, none⟩), .string x'.1, .func (.func 154) #[] #[], .string x'.1, undef, undef, undef, undef, undef], defers := [] }) ?assign ?body ?done ?stop
  case assign =>
    intro l x W K hK
    gi_wp2
    exact hK
  case body =>
    rintro l pre ⟨x, hx⟩ W ⟨⟨hu, hSW, hc0, hc1, hf1⟩, hB'⟩ hN
    have hlook := hSW.look (k := x) (by unfold maxLen; omega)
    cases hfx : f (bytesOf x) with
    | true =>
      rw [hfx] at hlook
      gi_wp2
      refine ⟨KeepsFrom.refl _ _, KeepsWalks.refl _, ⟨?_, hSW, hc0, hc1, hf1⟩, hB'⟩
      intro y hy
      rcases List.mem_append.1 hy with hy | hy
      · exact hu y hy
      · obtain rfl := List.mem_singleton.1 hy; exact hfx
    | false =>
      rw [hfx] at hlook
      gi_wp2
      exact ⟨(KeepsOthers.setCell _ _ _).from _, ⟨rfl, pre, _, rfl, hu, hfx, World.cell?_setCell_same' _ _ _ (by rw [hc1]; rfl)⟩, hB'.setCell (by simp) _⟩
  case done =>
    rintro D ys W hD ⟨j, hj, hys⟩ ⟨⟨hu, _⟩, hB'⟩ hK
    exfalso
    have h2 := pref_mem (i := j0) (j := j) (by omega) hg0.1
    rw [← hys] at h2
    obtain ⟨y, hy, he⟩ := List.mem_map.1 h2
    have h3 := hu y hy
    rw [he, bytesOf_mkB, hg0.2] at h3
    cases h3
  case stop =>
    rintro D c pre W hD ⟨j, hj⟩ ⟨⟨rfl, pre0, x, rfl, hu, hfx, hcx⟩, hB'⟩ hK
    rw [List.map_append] at hj
    obtain ⟨i, hi1, hi2, hi3⟩ := pref_last j _ _ hj.symm
    have hi1' : x.1 = mkB (strN i) := hi1
    have hxi : bytesOf x.1 = strN i := by rw [hi1', bytesOf_mkB]
    have hDl := (Array.getElem?_eq_some_iff.1 hK).1
    have hmin : ∀ k, k < i → notWord (strN k) = true → f (strN k) = true := by
      intro k hk hw
      have h2 := pref_mem hk hw
      rw [← hi3] at h2
      obtain ⟨y, hy, he⟩ := List.mem_map.1 h2
      have h3 := hu y hy
      rwa [he, bytesOf_mkB] at h3
    have HI := Lib.hid hi1'; have HM := Lib.hid hmin
    clear hj hi1 hi1' hmin
    gi_wp2
    refine ⟨by simp, .inl ⟨_, _, rfl, run_takeDeferred hK, ?_⟩⟩
    have d0 := cell_kept hcx (grownBy_putObj' W D (.deferred none)) (fun r e => by cases e; exact ⟨_, hK, rfl⟩)
    refine ⟨.string x.1, by simp [results, Tryz.results56, go_sem, d0], i, by rw [HI.out], ⟨hi2, by rw [← hxi]; exact hfx⟩, ?_, hB'.trans (belowK_b (w := w) (Nat.le_refl _) _ D _ _ (by omega) hK rfl rfl)⟩
    exact fun k hk hc => by have := HM.out k hk; simp_all

end Go.Proofs.YtjmlaeofjjhfmaaGreat
/- term.Fresh, and how far one must look. -/
namespace Go.Proofs.YtjmlaeofjjhfmaaGreat
open Go.RowKit Go.Shelf Go.Maps

theorem fold_facts (k : List UInt8) : ∀ (acc : List (List UInt8)) (D : DataW Unit) (_ : IsMap D),
    has ((acc.map Lit.string).foldl (fun m x => m.put x (.lit (.bool true))) D) (.string k) = (inSet acc k || has D (.string k)) ∧
    ∀ z, ((acc.map Lit.string).foldl (fun m x => m.put x (.lit (.bool true))) D).atKey (.string k) z = if inSet acc k then .lit (.bool true) else D.atKey (.string k) z := by
  intro acc
  induction acc with
  | nil => intro D _; simp [inSet]
  | cons a acc ih =>
    intro D hD
    obtain ⟨h1, h2⟩ := ih (D.put (.string a) (.lit (.bool true))) (by obtain ⟨es, rfl⟩ := hD; exact ⟨_, rfl⟩)
    rw [List.map_cons, List.foldl_cons]
    have hi : inSet (a :: acc) k = ((a == k) || inSet acc k) := by simp [inSet]
    rw [h1, hi]
    by_cases e : a = k
    · subst e
      rw [has_put_same hD (by simp [WideAt.IsKeyLit])]
      refine ⟨by simp, fun z => ?_⟩
      rw [h2 z, atKey_put_same hD (by simp [WideAt.IsKeyLit])]; simp
    · rw [has_put_other (by simp; exact fun h => e h.symm)]
      have e' : (a == k) = false := by simpa using e
      refine ⟨by rw [e']; simp, fun z => ?_⟩
      rw [h2 z, atKey_put_other (by simp; exact fun h => e h.symm), e']; simp

theorem SetAt.toF {w : World} {b n : Nat} {acc : List (List UInt8)} (h : SetAt w b n acc) : SetF w b n (inSet acc) := by
  refine ⟨_, h, fun k => ?_⟩
  obtain ⟨h1, h2⟩ := fold_facts k acc (.map []) ⟨[], rfl⟩
  unfold setOf
  refine ⟨by rw [h1]; simp [has], fun z => ?_⟩
  rw [h2 z]; cases inSet acc k <;> simp [DataW.atKey]

theorem strN_inj {i j : Nat} (h : strN i = strN j) : i = j := by
  have h1 := (strN_val i).1
  have h2 := (strN_val j).1
  rw [h] at h1; omega

/-- Some name among the first 101 strings is none of at most 90. -/
theorem some_free (S : List (List UInt8)) (hS : S.length ≤ 90) : ∃ j0, j0 < 1000 ∧ notWord (strN j0) = true ∧ inSet S (strN j0) = false := by
  refine Classical.byContradiction fun hno => ?_
  have hall : ∀ j, j < 101 → strN j ∈ words ++ S := by
    intro j hj
    refine Classical.byContradiction fun hn => hno ⟨j, by omega, ?_, ?_⟩
    · unfold notWord
      cases hw : inSet words (strN j) with
      | false => rfl
      | true =>
        refine absurd (List.mem_append_left _ ?_) hn
        unfold inSet at hw
        obtain ⟨x, hx, he⟩ := List.any_eq_true.1 hw
        rw [← show x = strN j by simpa using he]; exact hx
    · cases hw : inSet S (strN j) with
      | false => rfl
      | true =>
        refine absurd (List.mem_append_right _ ?_) hn
        unfold inSet at hw
        obtain ⟨x, hx, he⟩ := List.any_eq_true.1 hw
        rw [← show x = strN j by simpa using he]; exact hx
  have hnd : ((List.range 101).map strN).Nodup := by
    refine List.pairwise_map.2 ((List.nodup_range (n := 101)).imp ?_)
    intro a b hab h
    exact hab (strN_inj h)
  have hsub : ((List.range 101).map strN) ⊆ words ++ S := by
    intro x hx
    obtain ⟨j, hj, rfl⟩ := List.mem_map.1 hx
    exact hall j (List.mem_range.1 hj)
  have hlen := hnd.length_le_of_subset hsub
  have hw : words.length = 10 := rfl
  rw [List.length_map, List.length_range, List.length_append, hw] at hlen
  omega

/-- The first string of letters that is a name and none of S. -/
def IsFresh (S : List (List UInt8)) (j : Nat) : Prop := (notWord (strN j) = true ∧ inSet S (strN j) = false) ∧ ∀ i, i < j → ¬ (notWord (strN i) = true ∧ inSet S (strN i) = false)
theorem IsFresh.unique {S : List (List UInt8)} {i j : Nat} (h : IsFresh S i) (k : IsFresh S j) : i = j := by
  rcases Nat.lt_trichotomy i j with hlt | h2 | hlt
  · exact absurd h.1 (k.2 i hlt)
  · exact h2
  · exact absurd k.1 (h.2 j hlt)
theorem IsFresh.lt {S : List (List UInt8)} (hS : S.length ≤ 90) {j : Nat} (h : IsFresh S j) : j < 1000 := by
  obtain ⟨j0, h0, h1⟩ := some_free S hS
  refine Classical.byContradiction fun hn => h.2 j0 (by omega) h1

set_option maxHeartbeats 1000000 in
theorem fresh_any (v : Value) (ss : List ByteArray) (w : World) (h : StrsAt w.heap.size w v ss) (hl : ss.length ≤ 90) :
    Calls Tryz.prog 18 #[v] w fun e w' => ∃ j, e = .returned (.string (mkB (strN j))) ∧ IsFresh (ss.map bytesOf) j ∧ Below w.heap.size w w' := by
  obtain ⟨j0, hj0, hg0⟩ := some_free (ss.map bytesOf) (by simpa using hl)
  have ha := among_any v ss w h
  go_enter Tryz.func18, Tryz.ntmps18
  go_wp2_with (go_at_call 57; refine ha.mono ?_; clear ha; rintro e w1 ⟨rfl, hs, hb1⟩)
  have hun := (callsIn_wide (n := 6)).1 (unused_in 6 (by omega) w1 w.heap.size _ _ hs.toF j0 (by omega) hg0)
  go_wp2_with (go_at_call 56; refine hun.mono ?_; clear hun; rintro e w2 ⟨j, rfl, h1, h2, hb2⟩)
  go_ret
  exact ⟨j, rfl, ⟨h1, h2⟩, hb1.trans (hb2.mono hb1.size)⟩

end Go.Proofs.YtjmlaeofjjhfmaaGreat
