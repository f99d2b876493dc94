/- Own text. -/
import Derived.Deep.OwnRows
import Derived.Test.YtfpfabmbipmipaaGreatDoorD5
set_option linter.unusedSimpArgs false
set_option linter.unusedVariables false
set_option maxRecDepth 20000
set_option maxHeartbeats 12800000
namespace Go.Proofs.YtfpfabmbipmipaaGreatDoor
open Go.RowKit
theorem mod_cast2 (a k : Nat) : (a : Int) % 2 ^ k = ((a % 2 ^ k : Nat) : Int) := by simp
theorem xsigned_width (x : Nat) (n k : Int) (hk : k < 1 ∨ 64 < k) (w : World) : Calls Tryz.prog 74 #[.pointer (some ⟨x, 0, none⟩), .int .i64 n, .int .i64 k] w fun e w' => e = .returned (.int .i64 11) /\ w' = w := by
 go_enter Tryz.func74, Tryz.ntmps74
 go_wp2_with (go_at_call 27; refine (fits_out n k hk w).mono ?_; rintro e w' ⟨rfl, rfl⟩)
 go_ret
 exact ⟨rfl, rfl⟩
theorem xsigned_bad (x : Nat) (n : Int) (n1 : -9223372036854775808 <= n) (n2 : n <= 9223372036854775807) (k : Nat) (h1 : 1 <= k) (hk : k <= 64) (hb : n < -2 ^ (k - 1) ∨ 2 ^ (k - 1) <= n) (w : World) :
  Calls Tryz.prog 74 #[.pointer (some ⟨x, 0, none⟩), .int .i64 n, .int .i64 (k : Int)] w fun e w' => e = .returned (.int .i64 11) /\ w' = w := by
 have hf : decide (-2 ^ (k - 1) <= n /\ n < 2 ^ (k - 1)) = false := by rw [decide_eq_false_iff_not]; omega
 have HF : Hid _ := hf
 clear hf hb
 go_enter Tryz.func74, Tryz.ntmps74
 go_wp2_with fail
 refine (fits_in n n1 n2 k h1 hk w).mono ?_
 rw [HF.out]
 rintro e w' ⟨rfl, rfl⟩
 go_wp2
 go_ret
 exact ⟨rfl, rfl⟩
theorem xsigned_ok (x : Nat) (n : Int) (n1 : -9223372036854775808 <= n) (n2 : n <= 9223372036854775807) (k : Nat) (h1 : 1 <= k) (hk : k <= 64) (hb1 : -2 ^ (k - 1) <= n) (hb2 : n < 2 ^ (k - 1)) (w : World) (ao : OA) (B : List Nat) (hB : B.length <= 9000000000000) (hw : XwB w x ao B) :
  Calls Tryz.prog 74 #[.pointer (some ⟨x, 0, none⟩), .int .i64 n, .int .i64 (k : Int)] w fun e w' =>
   e = .returned (.int .i64 0) /\ ∃ ao', XwB w' x ao' (B ++ bitsOf (asU n) k) /\ Stays (foot x ao) w w' /\ Moved w.heap.size ao ao' := by
 have hf : decide (-2 ^ (k - 1) <= n /\ n < 2 ^ (k - 1)) = true := by rw [decide_eq_true_iff]; exact ⟨hb1, hb2⟩
 have HF : Hid _ := hf
 have hwr := asU_wrap n
 have HN1 := kQ n1
 have HN2 := kQ n2
 clear hf hb1 hb2 n1 n2
 by_cases h64 : k = 64
 ·subst h64
  go_enter Tryz.func74, Tryz.ntmps74
  go_wp2_with fail
  refine (fits_in n HN1.out HN2.out 64 h1 hk w).mono ?_;rw [HF.out];rintro e w' ⟨rfl, rfl⟩
  go_wp2_with fail
  refine (refput_ok x (asU n) 64 (by decide) (asU_lt n) _ ao B (by omega) hw).mono ?_
  rintro e w2 ⟨rfl, ao', g1, g2, g3⟩
  go_wp2
  go_ret;exact ⟨rfl, ao', g1, g2, g3⟩
 ·have hk64 : (k : Int) < 64 := by omega
  have hmask := mask_u64 (asU n) k (asU_lt n) (by omega)
  go_enter Tryz.func74, Tryz.ntmps74
  go_wp2_with fail
  refine (fits_in n HN1.out HN2.out k h1 hk w).mono ?_;rw [HF.out];rintro e w' ⟨rfl, rfl⟩
  go_wp2_with fail
  rw [mod_cast2];refine (refput_ok x (asU n % 2 ^ k) k (by omega) (Nat.mod_lt _ (Nat.two_pow_pos k)) _ ao B (by omega) hw).mono ?_
  rw [bitsOf_mod _ k k (Nat.le_refl _)];rintro e w2 ⟨rfl, ao', g1, g2, g3⟩
  go_wp2
  go_ret;exact ⟨rfl, ao', g1, g2, g3⟩
theorem xrice_width (x : Nat) (n k : Int) (hk : k < 0 ∨ 30 < k) (w : World) : Calls Tryz.prog 130 #[.pointer (some ⟨x, 0, none⟩), .int .i64 n, .int .i64 k] w fun e w' => e = .returned (.int .i64 11) /\ w' = w := by
 rcases hk with hk | hk
 ·go_enter Tryz.func130, Tryz.ntmps130
  go_wp2
  go_ret;exact ⟨rfl, rfl⟩
 ·go_enter Tryz.func130, Tryz.ntmps130
  go_wp2
  go_ret;exact ⟨rfl, rfl⟩
theorem xrice_long (x : Nat) (n : Int) (h1 : -9223372036854775808 <= n) (h2 : n <= 9223372036854775807) (k : Nat) (hk : k <= 30) (hl : 16777216 < foldN n / 2 ^ k) (w : World) :
  Calls Tryz.prog 130 #[.pointer (some ⟨x, 0, none⟩), .int .i64 n, .int .i64 (k : Int)] w fun e w' => e = .returned (.int .i64 11) /\ w' = w := by
 have hq : (16777216 : Int) < (foldN n : Int) / 2 ^ k := by rw [div_cast]; omega
 go_enter Tryz.func130, Tryz.ntmps130
 go_wp2_with (go_at_call 168; refine (fold_spec n h1 h2 w).mono ?_; rintro e w' ⟨rfl, rfl⟩)
 go_ret
 exact ⟨rfl, rfl⟩
theorem xrice_ok (x : Nat) (n : Int) (h1 : -9223372036854775808 <= n) (h2 : n <= 9223372036854775807) (k : Nat) (hk : k <= 30) (hl : foldN n / 2 ^ k <= 16777216)
  (w : World) (ao : OA) (B : List Nat) (hB : B.length <= 8000000000000) (hw : XwB w x ao B) :
  Calls Tryz.prog 130 #[.pointer (some ⟨x, 0, none⟩), .int .i64 n, .int .i64 (k : Int)] w fun e w' =>
   e = .returned (.int .i64 0) /\ ∃ ao', XwB w' x ao' (B ++ List.replicate (foldN n / 2 ^ k) 0 ++ [1] ++ bitsOf (foldN n) k) /\ Stays (foot x ao) w w' /\ Moved w.heap.size ao ao' := by
 obtain ⟨q, hq⟩ : ∃ q, q = foldN n / 2 ^ k := ⟨_, rfl⟩
 have hqi : (foldN n : Int) / 2 ^ k = (q : Int) := by rw [div_cast, hq]
 rw [<- hq] at hl ⊢
 have hf := foldN_lt n h1 h2
 have hmask := mask_u64 (foldN n) k hf (by omega)
 have HQ : Hid _ := hq
 clear hq
 go_enter Tryz.func130, Tryz.ntmps130
 go_wp2_with fail
 refine (fold_spec n h1 h2 w).mono ?_
 rintro e w' ⟨rfl, rfl⟩
 go_wp2_with fail
 refine (fold_spec n h1 h2 _).mono ?_
 rintro e w1 ⟨rfl, rfl⟩
 go_wp2_with fail
 refine (refunary_ok x q hl _ ao B (by omega) hw).mono ?_
 rintro e w2 ⟨rfl, ao2, hw2, hs2, hm2⟩
 go_wp2_with fail
 rw [mod_cast2]
 refine (refput_ok x (foldN n % 2 ^ k) k (by omega) (Nat.mod_lt _ (Nat.two_pow_pos k)) _ ao2 _ (by simp; omega) hw2).mono ?_
 rw [bitsOf_mod _ k k (Nat.le_refl _)]
 rintro e w3 ⟨rfl, ao3, hw3, hs3, hm3⟩
 go_wp2
 go_ret
 exact ⟨rfl, ao3, hw3, hs2.foot hs3 hm2, hm2.trans hm3 hs2.size⟩
theorem packN_grow (B L : List Nat) (m M : Nat) (hM : m < M) (h1 : 8 * m <= B.length) (h2 : B.length + L.length <= 8 * m + 8) :
  packN (B ++ L) M = (packN B M).set m (byteOf B m + num L * 2 ^ (8 * m + 8 - B.length - L.length)) := by
 apply List.ext_getElem?
 intro j
 rw [List.getElem?_set]
 simp only [packN_length]
 by_cases hj : j = m
 ·subst hj
  simp [packN, byteOf_last B L j h1 h2, hM]
 ·rw [if_neg (by omega)]
  by_cases hj2 : j < M
  ·simp only [packN, List.getElem?_map, List.getElem?_range hj2, Option.map_some]
   by_cases hjm : j < m
   ·rw [byteOf_append B L j (by omega)]
   ·rw [byteOf_past B j (by omega), byteOf_past (B ++ L) j (by rw [List.length_append]; omega)]
  ·simp [packN, hj2]
theorem packN_nil (M : Nat) : packN [] M = List.replicate M 0 := by
 have := packN_past [] 0 M (by simp)
 simpa [packN] using this
theorem bytes_step (B : List Nat) (h01 : Bits01 B) (j b c M v y : Nat) (hj : j < B.length) (hbc : j = 8 * b + c) (hc : c < 8) (hb : b < M) (hv : v = B[j]) (hy : y = byteOf (B.take j) b) :
  packN (B.take (j + 1)) M = (packN (B.take j) M).set b (y + v * 2 ^ (7 - c)) /\ y + v * 2 ^ (7 - c) < 256 := by
 have ht : B.take (j + 1) = B.take j ++ [v] := by rw [List.take_succ_eq_append_getElem hj, hv]
 have hl : (B.take j).length = j := by rw [List.length_take]; omega
 have e := packN_grow (B.take j) [v] b M hb (by omega) (by simp [hl]; omega)
 have e2 := byteOf_last (B.take j) [v] b (by omega) (by simp [hl]; omega)
 rw [hl, List.length_singleton, show 8 * b + 8 - j - 1 = 7 - c from by omega, show num [v] = v from by simp [num], <- hy] at e e2
 refine ⟨by rw [ht]; exact e, ?_⟩
 rw [<- e2, <- ht]
 exact byteOf_lt _ (h01.take _) b
theorem conv_owned {w : World} {ao : OA} {cap : Nat} {bs : List Nat} {n : Nat} (h : w.ownsRow 0 5 1 (.slice ao n cap) n (byteVals bs)) (hn : bs.length = n) :
  (convert 44 9 (.slice ao n cap)).run Tryz.prog w = .ok (.string (textOf bs)) w := by
 subst hn
 obtain ⟨ao1, cap1, hv, _, _, _, hs⟩ := owns_shape h
 simp only [Value.slice.injEq, true_and] at hv
 obtain ⟨rfl, rfl⟩ := hv
 cases ao with
 | none =>
  have hb : bs = [] := by
   rcases h.2 with ⟨_, h0⟩ | ⟨g, cap', cur, hv, _⟩
   ·exact List.eq_nil_of_length_eq_zero h0
   ·cases hv
  subst hb;exact run_convert_bytes_nil w 44 5 Tryz.underlying44 Tryz.underlying5 _ _ 9 Tryz.underlying9
 | some a =>
  obtain ⟨g, rfl⟩ : ∃ g, a = ⟨g, 0, none⟩ := ⟨_, (hs a rfl).1⟩;rw [textOf_eq];refine run_convert_bytes_arg w 44 5 Tryz.underlying44 Tryz.underlying5 g 0 bs.length cap _ (by simp) (fun i hi => ?_) 9 Tryz.underlying9
  rw [Nat.zero_add, h.cellAt i (by omega)]
  simp [byteVals, List.getD, hi]
theorem xbytes_spec (x : Nat) (w : World) (ao : OA) (B : List Nat) (h01 : Bits01 B) (hB : B.length <= 9000000000000) (hw : XwB w x ao B) :
  Calls Tryz.prog 32 #[.pointer (some ⟨x, 0, none⟩)] w fun e w' => e = .returned (.string (textOf (pack B))) /\ Lo w w' := by
 obtain ⟨i0, hi, hz0, hz1, hz2⟩ := info_parts Tryz.info5
 obtain ⟨cap, hX⟩ := hw
 have c0 := hX.c0
 obtain ⟨M, hM⟩ : ∃ M, M = (B.length + 7) / 8 := ⟨_, rfl⟩
 have hMi : ((B.length : Int) + 7) / 8 = (M : Int) := by omega
 have hM1 : M <= 2000000000000 := by omega
 have HM : Hid _ := hM
 clear hM
 have hmk := run_make_row' (P := Tryz.prog) 44 5 (.int .u8 0) 1 Tryz.underlying44 Tryz.info5 rfl .i64 .i64 M (by omega) (by omega) w
 obtain ⟨w1, hw1⟩ : ∃ w1, w1 = w.alloc (.cells (madeCells #[.int .u8 0] M) 5) := ⟨_, rfl⟩
 obtain ⟨g, hg⟩ : ∃ g, g = w.heap.size := ⟨_, rfl⟩
 have hB1 : Lo w w1 := by rw [hw1]; exact aQ
 have hX1 : Xw w1 x ao cap B := hX.stays (Stays.of_below hB1 (fun _ => False)) (fun h => h) (fun _ _ h => h)
 have hO1 : w1.ownsRow 0 5 1 (.slice (some ⟨g, 0, none⟩) M M) M (byteVals (packN (B.take 0) M)) := by
  rw [hw1, hg, List.take_zero, packN_nil, byteVals_zeros, <- toList_madeCells_one];exact World.ownsRow_lit w _ M (Nat.zero_le _) (by unfold maxLen; omega) (by simp [madeCells])
 have hxg : x ≠ g := by have := hX.lt; omega
 have hbg : ∀ b, blockOf ao = some b -> b ≠ g := fun b hb => by have := hX.blocks b hb; omega
 rw [<- hw1, <- hg] at hmk
 have HG : Hid _ := hg
 clear hw1 hg
 go_enter Tryz.func32, Tryz.ntmps32
 go_wp2
 clear hmk
 go_loopw [4] (fun t wr => ∃ j : Nat, j <= B.length /\ t = .int .i64 (j : Int) /\ Xw wr x ao cap B /\ wr.ownsRow 0 5 1 (.slice (some ⟨g, 0, none⟩) M M) M (byteVals (packN (B.take j) M)) /\ Below g w wr) (fun t _ => B.length - (intOf t).toNat)
 case atStart => exact ⟨0, Nat.zero_le _, rfl, hX1, hO1, by rw [HG.out]; exact hB1⟩
 case round =>
  obtain ⟨j, hj, rfl, hXr, hO, hBl⟩ := hrel;clear hX1 hO1 hB1 c0;have c0 := hXr.c0;by_cases hlt : (j : Int) < (B.length : Int)
  ·obtain ⟨b, c, hbc, hc8⟩ : ∃ b c : Nat, j = 8 * b + c /\ c < 8 := ⟨j / 8, j % 8, by omega, by omega⟩
   have hdiv : (j : Int) / 8 = (b : Int) := by omega
   have hmod : (j : Int) % 8 = (c : Int) := by omega
   have hbM : b < M := by have := HM.out; omega
   have hj2 : j < B.length := by omega
   obtain ⟨h, rfl⟩ : ∃ h, ao = some ⟨h, 0, none⟩ := by
    obtain ⟨ao1, cap1, hv, _, _, hn, hs⟩ := owns_shape hXr.own;simp only [Value.slice.injEq, true_and] at hv;obtain ⟨rfl, rfl⟩ := hv
    cases ao with
    | none => have := (hn rfl).1; omega
    | some a => exact ⟨a.block, by rw [<- (hs a rfl).1]⟩
   have hcb : wr.cell? ⟨h, j, none⟩ = some (.int .u8 ((B[j] : Nat) : Int)) := by
    rw [hXr.own.cellAt j (by omega)]
    simp [byteVals, hj2]
   have hco : wr.cell? ⟨g, b, none⟩ = some (.int .u8 ((byteOf (B.take j) b : Nat) : Int)) := by
    rw [hO.cellAt b (by omega)]
    simp [byteVals, packN, hbM]
   have hfo := hO.frozenAt b;obtain ⟨v, hv⟩ : ∃ v, v = B[j] := ⟨_, rfl⟩;obtain ⟨y, hy⟩ : ∃ y, y = byteOf (B.take j) b := ⟨_, rfl⟩;rw [<- hv] at hcb;rw [<- hy] at hco;have hv2 : v < 2 := by rw [hv]; exact h01 _ (List.getElem_mem _)
   have hy2 : y < 256 := by rw [hy]; exact byteOf_lt _ (h01.take j) b
   have HV : Hid _ := hv;have HY : Hid _ := hy;have HBC : Hid _ := hbc;clear hv hy hbc;have hstep := bytes_step B h01 j b c M v y hj2 HBC.out hc8 hbM HV.out HY.out
   have hval : ((y : Int) + (v : Int) * 2 ^ (7 - c)) % 256 = ((y + v * 2 ^ (7 - c) : Nat) : Int) := by
    have e : (v : Int) * 2 ^ (7 - c) = ((v * 2 ^ (7 - c) : Nat) : Int) := by simp
    rw [e];have := hstep.2;omega
   have HS : Hid _ := hstep;have HVAL : Hid _ := hval;clear hstep hval
   go_wp2
   go_region
   rw [HVAL.out];generalize hwd : World.drew _ = w2
   have hO2 : w2.ownsRow 0 5 1 (.slice (some ⟨g, 0, none⟩) M M) M (byteVals (packN (B.take (j + 1)) M)) := by
    rw [<- hwd, HS.out.1, <- byteVals_set];exact (hO.stored b (.int .u8 ((y + v * 2 ^ (7 - c) : Nat) : Int))).1
   have hX2 : Xw w2 x (some ⟨h, 0, none⟩) cap B := by
    rw [<- hwd];refine hXr.kept ?_ (fun b' hb' => ?_)
    ·exact Below.heap_setCell wr _ _ x hxg
    ·exact Below.heap_setCell wr _ _ b' (hbg b' hb')
   have hB2 : Below g w w2 := by
    rw [<- hwd];exact (hBl.setCell (Nat.le_refl _) _).drew
   clear hwd hO hXr hBl hcb hco hfo c0
   go_wp2
   go_roundw
   case rel => exact ⟨j + 1, by omega, by go_num, hX2, hO2, hB2⟩
   case measure => simp only [intOf]; omega
  ·obtain rfl : j = B.length := by omega
   rw [List.take_length] at hO;have hcv := conv_owned hO (by rw [packN_length])
   go_wp2
   go_ret;refine ⟨?_, by unfold Lo; rw [<- HG.out]; exact hBl⟩
   rw [show pack B = packN B M from by unfold pack; rw [<- HM.out]]
   rfl
def putE (u k : Int) : Int := if 0 <= k /\ k <= 64 /\ u < 2 ^ k.toNat then 0 else 11
def putB (u k : Int) : List Nat := if 0 <= k /\ k <= 64 /\ u < 2 ^ k.toNat then bitsOf u.toNat k.toNat else []
def sigE (n k : Int) : Int := if 1 <= k /\ k <= 64 /\ -2 ^ (k.toNat - 1) <= n /\ n < 2 ^ (k.toNat - 1) then 0 else 11
def sigB (n k : Int) : List Nat := if 1 <= k /\ k <= 64 /\ -2 ^ (k.toNat - 1) <= n /\ n < 2 ^ (k.toNat - 1) then bitsOf (asU n) k.toNat else []
def unrE (n : Int) : Int := if 0 <= n /\ n <= 16777216 then 0 else 11
def unrB (n : Int) : List Nat := if 0 <= n /\ n <= 16777216 then List.replicate n.toNat 0 ++ [1] else []
def rcwE (n k : Int) : Int := if 0 <= k /\ k <= 30 /\ foldN n / 2 ^ k.toNat <= 16777216 then 0 else 11
def rcwB (n k : Int) : List Nat := if 0 <= k /\ k <= 30 /\ foldN n / 2 ^ k.toNat <= 16777216 then List.replicate (foldN n / 2 ^ k.toNat) 0 ++ [1] ++ bitsOf (foldN n) k.toNat else []
theorem Bits01.nil : Bits01 [] := by intro b hb; cases hb
theorem Bits01.one : Bits01 [1] := by intro b hb; simp at hb; omega
theorem putB_01 (u k : Int) : Bits01 (putB u k) := by unfold putB; split; exact bitsOf_01 _ _; exact Bits01.nil
theorem sigB_01 (n k : Int) : Bits01 (sigB n k) := by unfold sigB; split; exact bitsOf_01 _ _; exact Bits01.nil
theorem unrB_01 (n : Int) : Bits01 (unrB n) := by unfold unrB; split; exact (Bits01.zeros _).append Bits01.one; exact Bits01.nil
theorem rcwB_01 (n k : Int) : Bits01 (rcwB n k) := by unfold rcwB; split; exact ((Bits01.zeros _).append Bits01.one).append (bitsOf_01 _ _); exact Bits01.nil
theorem putB_len (u k : Int) : (putB u k).length <= 17000000 := by unfold putB; split; (rw [bitsOf_length]; omega); simp
theorem sigB_len (n k : Int) : (sigB n k).length <= 17000000 := by unfold sigB; split; (rw [bitsOf_length]; omega); simp
theorem unrB_len (n : Int) : (unrB n).length <= 17000000 := by unfold unrB; split; (rw [List.length_append, List.length_replicate, List.length_singleton]; omega); simp
theorem rcwB_len (n k : Int) : (rcwB n k).length <= 17000000 := by
 unfold rcwB
 split
 ·rw [List.length_append, List.length_append, List.length_replicate, List.length_singleton, bitsOf_length]; omega
 ·simp
section
variable (w : World) (ao : OA) (B : List Nat)
theorem wput_all (p : Nat) (u k : Int) (u1 : 0 <= u) (u2 : u <= 18446744073709551615) (h01 : Bits01 B) (hB : B.length <= 7000000000000) (hw : WrB w p ao B) :
  Calls Tryz.prog 24 #[.pointer (some ⟨p, 0, none⟩), .int .u64 u, .int .i64 k] w fun e w' => e = .returned (.int .i64 (putE u k)) /\ ∃ ao', WrB w' p ao' (B ++ putB u k) /\ Stays (foot p ao) w w' /\ Moved w.heap.size ao ao' := by
 by_cases h : 0 <= k /\ k <= 64 /\ u < 2 ^ k.toNat
 ·unfold putE putB
  rw [if_pos h, if_pos h];obtain ⟨j, rfl⟩ : ∃ j : Nat, k = (j : Int) := ⟨k.toNat, by omega⟩
  obtain ⟨v, rfl⟩ : ∃ v : Nat, u = (v : Int) := ⟨u.toNat, by omega⟩
  have hv : v < 2 ^ j := by
   have e := h.2.2;have e2 : (2 : Int) ^ (j : Int).toNat = ((2 ^ j : Nat) : Int) := by simp
   rw [e2] at e;omega
  exact put_ok p v j (by omega) hv w ao B h01 (by omega) hw
 ·unfold putE putB
  rw [if_neg h, if_neg h];refine (put_bad p u k u1 (by omega) (by omega) w).mono ?_
  rintro e w' ⟨rfl, rfl⟩;exact ⟨rfl, ao, by simpa using hw, Stays.refl _ _, Moved.refl _ _⟩
theorem xput_all (x : Nat) (u k : Int) (u1 : 0 <= u) (u2 : u <= 18446744073709551615) (hB : B.length <= 7000000000000) (hw : XwB w x ao B) :
  Calls Tryz.prog 71 #[.pointer (some ⟨x, 0, none⟩), .int .u64 u, .int .i64 k] w fun e w' => e = .returned (.int .i64 (putE u k)) /\ ∃ ao', XwB w' x ao' (B ++ putB u k) /\ Stays (foot x ao) w w' /\ Moved w.heap.size ao ao' := by
 by_cases h : 0 <= k /\ k <= 64 /\ u < 2 ^ k.toNat
 ·unfold putE putB
  rw [if_pos h, if_pos h];obtain ⟨j, rfl⟩ : ∃ j : Nat, k = (j : Int) := ⟨k.toNat, by omega⟩
  obtain ⟨v, rfl⟩ : ∃ v : Nat, u = (v : Int) := ⟨u.toNat, by omega⟩
  have hv : v < 2 ^ j := by
   have e := h.2.2;have e2 : (2 : Int) ^ (j : Int).toNat = ((2 ^ j : Nat) : Int) := by simp
   rw [e2] at e;omega
  exact refput_ok x v j (by omega) hv w ao B (by omega) hw
 ·unfold putE putB
  rw [if_neg h, if_neg h];refine (refput_bad x u k u1 (by omega) (by omega) w).mono ?_
  rintro e w' ⟨rfl, rfl⟩;exact ⟨rfl, ao, by simpa using hw, Stays.refl _ _, Moved.refl _ _⟩
theorem wsig_all (p : Nat) (n k : Int) (h01 : Bits01 B) (hB : B.length <= 7000000000000) (hw : WrB w p ao B) :
  Calls Tryz.prog 187 #[.pointer (some ⟨p, 0, none⟩), .int .i64 n, .int .i64 k] w fun e w' => e = .returned (.int .i64 (sigE n k)) /\ ∃ ao', WrB w' p ao' (B ++ sigB n k) /\ Stays (foot p ao) w w' /\ Moved w.heap.size ao ao' := by
 by_cases h : 1 <= k /\ k <= 64 /\ -2 ^ (k.toNat - 1) <= n /\ n < 2 ^ (k.toNat - 1)
 ·unfold sigE sigB
  rw [if_pos h, if_pos h];obtain ⟨j, rfl⟩ : ∃ j : Nat, k = (j : Int) := ⟨k.toNat, by omega⟩
  exact wsigned_ok p n j (by omega) (by omega) h.2.2.1 h.2.2.2 w ao B h01 (by omega) hw
 ·unfold sigE sigB
  rw [if_neg h, if_neg h]
  have fin : ∀ (e : Ending) (w' : World), e = .returned (.int .i64 11) /\ w' = w -> e = .returned (.int .i64 11) /\ ∃ ao', WrB w' p ao' (B ++ []) /\ Stays (foot p ao) w w' /\ Moved w.heap.size ao ao' := by
   rintro e w' ⟨rfl, rfl⟩;exact ⟨rfl, ao, by simpa using hw, Stays.refl _ _, Moved.refl _ _⟩
  by_cases hk : k < 1 ∨ 64 < k
  ·exact (wsigned_width p n k hk w).mono fin
  ·obtain ⟨j, rfl⟩ : ∃ j : Nat, k = (j : Int) := ⟨k.toNat, by omega⟩
   rw [Int.toNat_natCast] at h;exact (wsigned_bad p n j (by omega) (by omega) (by omega) w).mono fin
theorem xsig_all (x : Nat) (n k : Int) (n1 : -9223372036854775808 <= n) (n2 : n <= 9223372036854775807) (hB : B.length <= 7000000000000) (hw : XwB w x ao B) :
  Calls Tryz.prog 74 #[.pointer (some ⟨x, 0, none⟩), .int .i64 n, .int .i64 k] w fun e w' => e = .returned (.int .i64 (sigE n k)) /\ ∃ ao', XwB w' x ao' (B ++ sigB n k) /\ Stays (foot x ao) w w' /\ Moved w.heap.size ao ao' := by
 by_cases h : 1 <= k /\ k <= 64 /\ -2 ^ (k.toNat - 1) <= n /\ n < 2 ^ (k.toNat - 1)
 ·unfold sigE sigB
  rw [if_pos h, if_pos h];obtain ⟨j, rfl⟩ : ∃ j : Nat, k = (j : Int) := ⟨k.toNat, by omega⟩
  exact xsigned_ok x n n1 n2 j (by omega) (by omega) h.2.2.1 h.2.2.2 w ao B (by omega) hw
 ·unfold sigE sigB
  rw [if_neg h, if_neg h]
  have fin : ∀ (e : Ending) (w' : World), e = .returned (.int .i64 11) /\ w' = w -> e = .returned (.int .i64 11) /\ ∃ ao', XwB w' x ao' (B ++ []) /\ Stays (foot x ao) w w' /\ Moved w.heap.size ao ao' := by
   rintro e w' ⟨rfl, rfl⟩;exact ⟨rfl, ao, by simpa using hw, Stays.refl _ _, Moved.refl _ _⟩
  by_cases hk : k < 1 ∨ 64 < k
  ·exact (xsigned_width x n k hk w).mono fin
  ·obtain ⟨j, rfl⟩ : ∃ j : Nat, k = (j : Int) := ⟨k.toNat, by omega⟩
   rw [Int.toNat_natCast] at h;exact (xsigned_bad x n n1 n2 j (by omega) (by omega) (by omega) w).mono fin
theorem wunr_all (p : Nat) (n : Int) (h01 : Bits01 B) (hB : B.length <= 7000000000000) (hw : WrB w p ao B) :
  Calls Tryz.prog 156 #[.pointer (some ⟨p, 0, none⟩), .int .i64 n] w fun e w' => e = .returned (.int .i64 (unrE n)) /\ ∃ ao', WrB w' p ao' (B ++ unrB n) /\ Stays (foot p ao) w w' /\ Moved w.heap.size ao ao' := by
 by_cases h : 0 <= n /\ n <= 16777216
 ·unfold unrE unrB
  rw [if_pos h, if_pos h, <- List.append_assoc];obtain ⟨j, rfl⟩ : ∃ j : Nat, n = (j : Int) := ⟨n.toNat, by omega⟩
  exact wunary_ok p j (by omega) w ao B h01 (by omega) hw
 ·unfold unrE unrB
  rw [if_neg h, if_neg h];refine (wunary_bad p n (by omega) w).mono ?_
  rintro e w' ⟨rfl, rfl⟩;exact ⟨rfl, ao, by simpa using hw, Stays.refl _ _, Moved.refl _ _⟩
theorem xunr_all (x : Nat) (n : Int) (hB : B.length <= 7000000000000) (hw : XwB w x ao B) :
  Calls Tryz.prog 72 #[.pointer (some ⟨x, 0, none⟩), .int .i64 n] w fun e w' => e = .returned (.int .i64 (unrE n)) /\ ∃ ao', XwB w' x ao' (B ++ unrB n) /\ Stays (foot x ao) w w' /\ Moved w.heap.size ao ao' := by
 by_cases h : 0 <= n /\ n <= 16777216
 ·unfold unrE unrB
  rw [if_pos h, if_pos h, <- List.append_assoc];obtain ⟨j, rfl⟩ : ∃ j : Nat, n = (j : Int) := ⟨n.toNat, by omega⟩
  exact refunary_ok x j (by omega) w ao B (by omega) hw
 ·unfold unrE unrB
  rw [if_neg h, if_neg h];refine (refunary_bad x n (by omega) w).mono ?_
  rintro e w' ⟨rfl, rfl⟩;exact ⟨rfl, ao, by simpa using hw, Stays.refl _ _, Moved.refl _ _⟩
theorem wric_all (p : Nat) (n k : Int) (n1 : -9223372036854775808 <= n) (n2 : n <= 9223372036854775807) (h01 : Bits01 B) (hB : B.length <= 7000000000000) (hw : WrB w p ao B) :
  Calls Tryz.prog 215 #[.pointer (some ⟨p, 0, none⟩), .int .i64 n, .int .i64 k] w fun e w' => e = .returned (.int .i64 (rcwE n k)) /\ ∃ ao', WrB w' p ao' (B ++ rcwB n k) /\ Stays (foot p ao) w w' /\ Moved w.heap.size ao ao' := by
 by_cases h : 0 <= k /\ k <= 30 /\ foldN n / 2 ^ k.toNat <= 16777216
 ·unfold rcwE rcwB
  rw [if_pos h, if_pos h, <- List.append_assoc, <- List.append_assoc];obtain ⟨j, rfl⟩ : ∃ j : Nat, k = (j : Int) := ⟨k.toNat, by omega⟩
  exact rice_ok p n n1 n2 j (by omega) h.2.2 w ao B h01 (by omega) hw
 ·unfold rcwE rcwB
  rw [if_neg h, if_neg h]
  have fin : ∀ (e : Ending) (w' : World), e = .returned (.int .i64 11) /\ w' = w -> e = .returned (.int .i64 11) /\ ∃ ao', WrB w' p ao' (B ++ []) /\ Stays (foot p ao) w w' /\ Moved w.heap.size ao ao' := by
   rintro e w' ⟨rfl, rfl⟩;exact ⟨rfl, ao, by simpa using hw, Stays.refl _ _, Moved.refl _ _⟩
  by_cases hk : k < 0 ∨ 30 < k
  ·exact (rice_width p n k hk w).mono fin
  ·obtain ⟨j, rfl⟩ : ∃ j : Nat, k = (j : Int) := ⟨k.toNat, by omega⟩
   rw [Int.toNat_natCast] at h;exact (rice_long p n n1 n2 j (by omega) (by omega) w).mono fin
theorem xric_all (x : Nat) (n k : Int) (n1 : -9223372036854775808 <= n) (n2 : n <= 9223372036854775807) (hB : B.length <= 7000000000000) (hw : XwB w x ao B) :
  Calls Tryz.prog 130 #[.pointer (some ⟨x, 0, none⟩), .int .i64 n, .int .i64 k] w fun e w' => e = .returned (.int .i64 (rcwE n k)) /\ ∃ ao', XwB w' x ao' (B ++ rcwB n k) /\ Stays (foot x ao) w w' /\ Moved w.heap.size ao ao' := by
 by_cases h : 0 <= k /\ k <= 30 /\ foldN n / 2 ^ k.toNat <= 16777216
 ·unfold rcwE rcwB
  rw [if_pos h, if_pos h, <- List.append_assoc, <- List.append_assoc];obtain ⟨j, rfl⟩ : ∃ j : Nat, k = (j : Int) := ⟨k.toNat, by omega⟩
  exact xrice_ok x n n1 n2 j (by omega) h.2.2 w ao B (by omega) hw
 ·unfold rcwE rcwB
  rw [if_neg h, if_neg h]
  have fin : ∀ (e : Ending) (w' : World), e = .returned (.int .i64 11) /\ w' = w -> e = .returned (.int .i64 11) /\ ∃ ao', XwB w' x ao' (B ++ []) /\ Stays (foot x ao) w w' /\ Moved w.heap.size ao ao' := by
   rintro e w' ⟨rfl, rfl⟩;exact ⟨rfl, ao, by simpa using hw, Stays.refl _ _, Moved.refl _ _⟩
  by_cases hk : k < 0 ∨ 30 < k
  ·exact (xrice_width x n k hk w).mono fin
  ·obtain ⟨j, rfl⟩ : ∃ j : Nat, k = (j : Int) := ⟨k.toNat, by omega⟩
   rw [Int.toNat_natCast] at h;exact (xrice_long x n n1 n2 j (by omega) (by omega) w).mono fin
end
def unfoldN (u : Nat) : Int := if u % 2 = 0 then ((u / 2 : Nat) : Int) else -((u / 2 : Nat) : Int) - 1
def sgn (u k : Nat) : Int := if 2 ^ (k - 1) <= u then (u : Int) - 2 ^ k else (u : Int)
theorem ret_pair {k l : IntKind} {a b c : Int} (h : a = b) : Ending.returned (.tuple #[.int k a, .int l c]) = .returned (.tuple #[.int k b, .int l c]) := by rw [h]
theorem sgn_code (u k : Nat) (h1 : 1 <= k) (h2 : k <= 64) (hu : u < 2 ^ k) : wrap64 (IntKind.u64.wrap ((u : Int) * 2 ^ (64 - k))) / 2 ^ (64 - k) = sgn u k := by
 obtain ⟨A, hA⟩ : ∃ A, A = (2 : Nat) ^ (64 - k) := ⟨_, rfl⟩
 obtain ⟨H, hH⟩ : ∃ H, H = (2 : Nat) ^ (k - 1) := ⟨_, rfl⟩
 have hA0 : 0 < A := by rw [hA]; exact Nat.two_pow_pos _
 have hHA : H * A = 9223372036854775808 := by rw [hA, hH, <- Nat.pow_add, show k - 1 + (64 - k) = 63 from by omega]
 have hk : (2 : Nat) ^ k = 2 * H := by rw [hH, <- Nat.pow_succ', show (k - 1).succ = k from by omega]
 have ei : (2 : Int) ^ (64 - k) = (A : Int) := by rw [hA]; simp
 have ek : (2 : Int) ^ k = ((2 * H : Nat) : Int) := by rw [<- hk]; simp
 have eu : (u : Int) * (A : Int) = ((u * A : Nat) : Int) := by simp
 have hub : u * A < (2 * H) * A := Nat.mul_lt_mul_of_pos_right (by omega) hA0
 rw [Nat.mul_assoc, hHA] at hub
 unfold sgn
 rw [ei, ek, eu, IntKind.wrap_u64, <- hH]
 by_cases hh : H <= u
 ·rw [if_pos hh]
  have hge : H * A <= u * A := Nat.mul_le_mul_right _ hh
  have e1 : wrap64 (((u * A : Nat) : Int) % 18446744073709551616) = ((u : Int) - ((2 * H : Nat) : Int)) * (A : Int) := by
   have e2 : ((u : Int) - ((2 * H : Nat) : Int)) * (A : Int) = ((u * A : Nat) : Int) - ((2 * (H * A) : Nat) : Int) := by
    rw [Int.sub_mul, eu, <- Nat.mul_assoc];simp
   rw [e2, hHA];unfold wrap64;omega
  rw [e1, Int.mul_ediv_cancel _ (by omega)]
 ·rw [if_neg hh]
  have hlt : u * A < H * A := Nat.mul_lt_mul_of_pos_right (by omega) hA0
  have e1 : wrap64 (((u * A : Nat) : Int) % 18446744073709551616) = (u : Int) * (A : Int) := by
   rw [eu];unfold wrap64;omega
  rw [e1, Int.mul_ediv_cancel _ (by omega)]
theorem signed_width (q : Nat) (k : Int) (hk : k < 1 ∨ 64 < k) (w : World) : Calls Tryz.prog 199 #[.pointer (some ⟨q, 0, none⟩), .int .i64 k] w fun e w' => e = .returned (.tuple #[.int .i64 0, .int .i64 11]) /\ w' = w := by
 rcases hk with hk | hk
 ·go_enter Tryz.func199, Tryz.ntmps199
  go_wp2
  go_ret2
  exact ⟨rfl, rfl⟩
 ·go_enter Tryz.func199, Tryz.ntmps199
  go_wp2
  go_ret2
  exact ⟨rfl, rfl⟩
theorem signed_end (q : Nat) (s : ByteArray) (hs : s.size <= 1000000000000000000) (at_ : Nat) (ha : at_ <= 8 * s.size) (k : Nat) (h1 : 1 <= k) (hk : k <= 64) (he : 8 * s.size < at_ + k) (w : World) (h : Rd w q s at_) :
  Calls Tryz.prog 199 #[.pointer (some ⟨q, 0, none⟩), .int .i64 (k : Int)] w fun e w' => e = .returned (.tuple #[.int .i64 0, .int .i64 10]) /\ ∃ n, w' = w.drewN n := by
 go_enter Tryz.func199, Tryz.ntmps199
 go_wp2_with (go_at_call 139; refine (get_end q s hs at_ ha k hk he _ h).mono ?_; rintro e w' ⟨rfl, n1, rfl⟩)
 go_ret2
 exact ⟨rfl, _, rfl⟩
theorem signed_ok (q : Nat) (s : ByteArray) (hs : s.size <= 1000000000000000000) (at_ : Nat) (k : Nat) (h1 : 1 <= k) (hk : k <= 64) (he : at_ + k <= 8 * s.size) (w : World) (h : Rd w q s at_) :
  Calls Tryz.prog 199 #[.pointer (some ⟨q, 0, none⟩), .int .i64 (k : Int)] w fun e w' => e = .returned (.tuple #[.int .i64 (sgn (bitsAt s at_ k) k), .int .i64 0]) /\ Rd w' q s (at_ + k) /\ Stays (only q) w w' := by
 go_enter Tryz.func199, Tryz.ntmps199
 go_wp2_with (go_at_call 139; refine (get_ok q s hs at_ k hk he _ h).mono ?_; rintro e w2 ⟨rfl, hR2, hS2⟩)
 go_ret2
 exact ⟨ret_pair (sgn_code _ k h1 hk (bitsAt_lt s at_ k)), hR2, hS2⟩
def padOf (at_ : Nat) : Nat := (8 - at_ % 8) % 8
theorem ralign_spec (q : Nat) (s : ByteArray) (hs : s.size <= 1000000000000000000) (at_ : Nat) (ha : at_ <= 8 * s.size) (w : World) (h : Rd w q s at_) :
  Calls Tryz.prog 104 #[.pointer (some ⟨q, 0, none⟩)] w fun e w' => e = .returned (.tuple #[.bool ((bitsAt s at_ (padOf at_) : Int) == 0), .int .i64 0]) /\ Rd w' q s (at_ + padOf at_) /\ Stays (only q) w w' := by
 have hand : bits BinOp.and IntKind.i64 (-(at_ : Int)) 7 = (padOf at_ : Int) := by rw [i64_and7]; unfold padOf; omega
 have hp : at_ + padOf at_ <= 8 * s.size /\ padOf at_ <= 64 := by unfold padOf; omega
 go_enter Tryz.func104, Tryz.ntmps104
 go_wp2_with (first | (go_at_call 105; refine (passed_spec q s at_ _ h).mono ?_; rintro e w' ⟨rfl, rfl⟩) | (go_at_call 144; refine (take_spec q s hs at_ (padOf at_) hp.1 hp.2 _ h).mono ?_; rintro e w2 ⟨rfl, hR2, hS2⟩))
 go_ret2
 exact ⟨rfl, hR2, hS2⟩
def getE (s : ByteArray) (a : Nat) (k : Int) : Int := if k < 0 ∨ 64 < k then 11 else if 8 * s.size < a + k.toNat then 10 else 0
def getV (s : ByteArray) (a : Nat) (k : Int) : Int := if getE s a k = 0 then (bitsAt s a k.toNat : Int) else 0
def getA (s : ByteArray) (a : Nat) (k : Int) : Nat := if getE s a k = 0 then a + k.toNat else a
def sgnE (s : ByteArray) (a : Nat) (k : Int) : Int := if k < 1 ∨ 64 < k then 11 else if 8 * s.size < a + k.toNat then 10 else 0
def sgnV (s : ByteArray) (a : Nat) (k : Int) : Int := if sgnE s a k = 0 then sgn (bitsAt s a k.toNat) k.toNat else 0
def sgnA (s : ByteArray) (a : Nat) (k : Int) : Nat := if sgnE s a k = 0 then a + k.toNat else a
def unaE (s : ByteArray) (a : Nat) : Int := if 16777216 < lead (ahead s a) then 11 else if lead (ahead s a) = 8 * s.size - a then 10 else 0
def unaV (s : ByteArray) (a : Nat) : Int := if unaE s a = 0 then (lead (ahead s a) : Int) else 0
def unaA (s : ByteArray) (a : Nat) : Nat := if unaE s a = 0 then a + lead (ahead s a) + 1 else a
def ricE (s : ByteArray) (a : Nat) (k : Int) : Int := if k < 0 ∨ 30 < k then 11 else if unaE s a = 0 then (if 8 * s.size < a + lead (ahead s a) + 1 + k.toNat then 10 else 0) else unaE s a
def ricV (s : ByteArray) (a : Nat) (k : Int) : Int := if ricE s a k = 0 then unfoldN (lead (ahead s a) * 2 ^ k.toNat + bitsAt s (a + lead (ahead s a) + 1) k.toNat) else 0
def ricA (s : ByteArray) (a : Nat) (k : Int) : Nat := if ricE s a k = 0 then a + lead (ahead s a) + 1 + k.toNat else a
theorem only_same {q : Nat} (w : World) : Stays (only q) w w := Stays.refl _ _
theorem only_drewN {q : Nat} (w : World) (n : Nat) : Stays (only q) w (w.drewN n) := (Stays.refl _ _).drewN n
theorem getA_le (s : ByteArray) (a : Nat) (k : Int) (ha : a <= 8 * s.size) : getA s a k <= 8 * s.size := by
 unfold getA
 by_cases h : getE s a k = 0
 ·rw [if_pos h]
  unfold getE at h;by_cases hk : k < 0 ∨ 64 < k
  ·rw [if_pos hk] at h; omega
  ·rw [if_neg hk] at h
   by_cases hr : 8 * s.size < a + k.toNat
   ·rw [if_pos hr] at h; omega
   ·omega
 ·rw [if_neg h]; exact ha
theorem sgnA_le (s : ByteArray) (a : Nat) (k : Int) (ha : a <= 8 * s.size) : sgnA s a k <= 8 * s.size := by
 unfold sgnA
 by_cases h : sgnE s a k = 0
 ·rw [if_pos h]
  unfold sgnE at h;by_cases hk : k < 1 ∨ 64 < k
  ·rw [if_pos hk] at h; omega
  ·rw [if_neg hk] at h
   by_cases hr : 8 * s.size < a + k.toNat
   ·rw [if_pos hr] at h; omega
   ·omega
 ·rw [if_neg h]; exact ha
theorem ricA_le (s : ByteArray) (a : Nat) (k : Int) (ha : a <= 8 * s.size) : ricA s a k <= 8 * s.size := by
 unfold ricA
 by_cases h : ricE s a k = 0
 ·rw [if_pos h]
  unfold ricE at h;by_cases hk : k < 0 ∨ 30 < k
  ·rw [if_pos hk] at h; omega
  ·rw [if_neg hk] at h
   by_cases hu : unaE s a = 0
   ·rw [if_pos hu] at h
    by_cases hr : 8 * s.size < a + lead (ahead s a) + 1 + k.toNat
    ·rw [if_pos hr] at h; omega
    ·omega
   ·rw [if_neg hu] at h
    exact absurd h hu
 ·rw [if_neg h]; exact ha
theorem get_all (s : ByteArray) (hs : s.size <= 1000000000000000000) (a : Nat) (ha : a <= 8 * s.size) (w : World) (q : Nat) (k : Int) (h : Rd w q s a) : Calls Tryz.prog 139 #[.pointer (some ⟨q, 0, none⟩), .int .i64 k] w fun e w' => e = .returned (.tuple #[.int .u64 (getV s a k), .int .i64 (getE s a k)]) /\ Rd w' q s (getA s a k) /\ Stays (only q) w w' := by
 by_cases hk : k < 0 ∨ 64 < k
 ·have hE : getE s a k = 11 := by unfold getE; rw [if_pos hk]
  have hV : getV s a k = 0 := by unfold getV; rw [hE]; rfl
  have hA : getA s a k = a := by unfold getA; rw [hE]; rfl
  rw [hE, hV, hA];exact (get_width q k hk w).mono (fun e w' ⟨he, hw⟩ => ⟨he, by rw [hw]; exact h, by rw [hw]; exact only_same w⟩)
 ·obtain ⟨j, rfl⟩ : ∃ j : Nat, k = (j : Int) := ⟨k.toNat, by omega⟩
  by_cases he : 8 * s.size < a + j
  ·have hE : getE s a (j : Int) = 10 := by unfold getE; rw [if_neg hk, if_pos (by simpa using he)]
   have hV : getV s a (j : Int) = 0 := by unfold getV; rw [hE]; rfl
   have hA : getA s a (j : Int) = a := by unfold getA; rw [hE]; rfl
   rw [hE, hV, hA];exact (get_end q s hs a ha j (by omega) he w h).mono (fun e w' ⟨he, n, hw⟩ => ⟨he, by rw [hw]; exact h.drewN n, by rw [hw]; exact only_drewN w n⟩)
  ·have hE : getE s a (j : Int) = 0 := by unfold getE; rw [if_neg hk, if_neg (by simpa using he)]
   have hV : getV s a (j : Int) = (bitsAt s a j : Int) := by unfold getV; rw [hE]; rfl
   have hA : getA s a (j : Int) = a + j := by unfold getA; rw [hE]; rfl
   rw [hE, hV, hA];exact get_ok q s hs a j (by omega) (by omega) w h
theorem signed_all (s : ByteArray) (hs : s.size <= 1000000000000000000) (a : Nat) (ha : a <= 8 * s.size) (w : World) (q : Nat) (k : Int) (h : Rd w q s a) : Calls Tryz.prog 199 #[.pointer (some ⟨q, 0, none⟩), .int .i64 k] w fun e w' => e = .returned (.tuple #[.int .i64 (sgnV s a k), .int .i64 (sgnE s a k)]) /\ Rd w' q s (sgnA s a k) /\ Stays (only q) w w' := by
 by_cases hk : k < 1 ∨ 64 < k
 ·have hE : sgnE s a k = 11 := by unfold sgnE; rw [if_pos hk]
  have hV : sgnV s a k = 0 := by unfold sgnV; rw [hE]; rfl
  have hA : sgnA s a k = a := by unfold sgnA; rw [hE]; rfl
  rw [hE, hV, hA];exact (signed_width q k hk w).mono (fun e w' ⟨he, hw⟩ => ⟨he, by rw [hw]; exact h, by rw [hw]; exact only_same w⟩)
 ·obtain ⟨j, rfl⟩ : ∃ j : Nat, k = (j : Int) := ⟨k.toNat, by omega⟩
  by_cases he : 8 * s.size < a + j
  ·have hE : sgnE s a (j : Int) = 10 := by unfold sgnE; rw [if_neg hk, if_pos (by simpa using he)]
   have hV : sgnV s a (j : Int) = 0 := by unfold sgnV; rw [hE]; rfl
   have hA : sgnA s a (j : Int) = a := by unfold sgnA; rw [hE]; rfl
   rw [hE, hV, hA];exact (signed_end q s hs a ha j (by omega) (by omega) he w h).mono (fun e w' ⟨he, n, hw⟩ => ⟨he, by rw [hw]; exact h.drewN n, by rw [hw]; exact only_drewN w n⟩)
  ·have hE : sgnE s a (j : Int) = 0 := by unfold sgnE; rw [if_neg hk, if_neg (by simpa using he)]
   have hV : sgnV s a (j : Int) = sgn (bitsAt s a j) j := by unfold sgnV; rw [hE]; rfl
   have hA : sgnA s a (j : Int) = a + j := by unfold sgnA; rw [hE]; rfl
   rw [hE, hV, hA];exact signed_ok q s hs a j (by omega) (by omega) (by omega) w h
end Go.Proofs.YtfpfabmbipmipaaGreatDoor
