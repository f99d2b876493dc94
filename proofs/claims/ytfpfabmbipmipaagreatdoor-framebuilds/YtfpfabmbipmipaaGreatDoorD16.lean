/- Own text. -/
import Derived.Test.YtfpfabmbipmipaaGreatDoorD15
set_option linter.unusedSimpArgs false
set_option linter.unusedVariables false
set_option maxRecDepth 20000
set_option maxHeartbeats 12800000
namespace Go.Proofs.YtfpfabmbipmipaaGreatDoor
open Go.RowKit
theorem i64_mask (n : Int) (k : Nat) (hk : k <= 62) : bits BinOp.and IntKind.i64 n ((2 ^ k - 1 : Nat) : Int) = n % ((2 ^ k : Nat) : Int) := by
 show IntKind.i64.wrap ((BitVec.ofInt 64 n &&& BitVec.ofInt 64 ((2 ^ k - 1 : Nat) : Int)).toNat : Int) = _
 have h1 : (2 : Nat) ^ k <= 2 ^ 62 := Nat.pow_le_pow_right (by decide) hk
 have h0 : 0 < (2 : Nat) ^ k := Nat.two_pow_pos k
 have e62 : (2 : Nat) ^ 62 = 4611686018427387904 := by decide
 have e2 : (BitVec.ofInt 64 ((2 ^ k - 1 : Nat) : Int)).toNat = 2 ^ k - 1 := by
  rw [BitVec.toNat_ofInt];have e64 : (2 : Nat) ^ 64 = 18446744073709551616 := by decide
  have : (((2 ^ k - 1 : Nat) : Int) % ((2 ^ 64 : Nat) : Int)) = ((2 ^ k - 1 : Nat) : Int) := Int.emod_eq_of_lt (by omega) (by omega)
  rw [this]; rfl
 rw [BitVec.toNat_and, BitVec.toNat_ofInt, e2, Nat.and_two_pow_sub_one_eq_mod]
 have hd : ((2 ^ k : Nat) : Int) ∣ ((2 ^ 64 : Nat) : Int) := Int.natCast_dvd_natCast.2 (Nat.pow_dvd_pow 2 (by omega))
 have e3 : (((n % ((2 ^ 64 : Nat) : Int)).toNat % 2 ^ k : Nat) : Int) = n % ((2 ^ k : Nat) : Int) := by
  rw [Int.natCast_emod, Int.toNat_of_nonneg (Int.emod_nonneg _ (by decide)), Int.emod_emod_of_dvd _ hd]
 rw [e3]
 have h2 := Int.emod_nonneg n (show ((2 ^ k : Nat) : Int) ≠ 0 by omega)
 have h3 := Int.emod_lt_of_pos n (show (0 : Int) < ((2 ^ k : Nat) : Int) by omega)
 rw [IntKind.wrap_i64]
 omega
theorem dvB_at (l : List Int) (k : Nat) : dvB l k = true ↔ ∀ j, j < l.length -> l.getD j 0 % ((2 ^ k : Nat) : Int) = 0 := by
 rw [dvB_iff]
 have e : ((2 ^ k : Nat) : Int) = (2 : Int) ^ k := by simp
 rw [e]
 constructor
 ·intro h j hj
  refine h _ ?_;rw [List.getD_eq_getElem?_getD, List.getElem?_eq_getElem hj]; exact List.getElem_mem hj
 ·intro h n hn
  obtain ⟨j, hj, rfl⟩ := List.getElem_of_mem hn;have := h j hj;rw [List.getD_eq_getElem?_getD, List.getElem?_eq_getElem hj] at this;exact this
theorem xdiv_spec (l : List Int) (k : Nat) (hk : k <= 31) (la : OA) (lc : Nat) (w : World) (hl : IntsAt w la l) : Calls Tryz.prog 125 #[.slice la l.length lc, .int .i64 (k : Int)] w fun e w' => e = .returned (.bool (dvB l k)) /\ w' = w := by
 have h1 := hl.len
 have HL := kQ hl
 have HDT : Hid (dvB l k = true ↔ ∀ j, j < l.length -> l.getD j 0 % ((2 ^ k : Nat) : Int) = 0) := dvB_at l k
 have HM : Hid (∀ n : Int, bits BinOp.and IntKind.i64 n ((2 ^ k - 1 : Nat) : Int) = n % ((2 ^ k : Nat) : Int)) := fun n => i64_mask n k (by omega)
 have hp1 : 1 <= 2 ^ k := Nat.one_le_two_pow
 have hp2 : 2 ^ k <= 2147483648 := Nat.le_trans (Nat.pow_le_pow_right (by decide) hk) (by decide)
 have hpw : (2 : Int) ^ k = ((2 ^ k : Nat) : Int) := by simp
 generalize hN : 2 ^ k = N at *
 have hpm : (N : Int) - 1 = ((N - 1 : Nat) : Int) := by omega
 clear hl hN
 go_enter Tryz.func125, Tryz.ntmps125
 go_wp2_with fail
 go_loopw [5] (fun t wr => ∃ i : Nat, i <= l.length /\ t = .int .i64 (i : Int) /\ (∀ j, j < i -> l.getD j 0 % (N : Int) = 0) /\ wr = w) (fun t _ => l.length - (intOf t).toNat)
 case atStart => exact ⟨0, Nat.zero_le _, rfl, fun j hj => absurd hj (Nat.not_lt_zero _), rfl⟩
 case round =>
  obtain ⟨i, hi, rfl, hall, rfl⟩ := hrel;have HA := kQ hall;clear hall;by_cases hlt : i < l.length
  ·obtain ⟨b1, o1, rfl, q1⟩ := HL.out.at i hlt
   have r1 := q1 wr (Below.refl _ _);have hb := HM.out (l.getD i 0);clear q1;have HX : Hid (l.getD i 0 = l.getD i 0) := rfl;obtain ⟨x, hx⟩ : ∃ x, x = l.getD i 0 := ⟨_, rfl⟩;have HXE := kQ hx;rw [<- hx] at r1 hb;clear hx HX;generalize hrr : x % (N : Int) = rr at *;have HRR := kQ hrr;clear hrr;by_cases h0 : rr = 0
   ·have hbn : (rr != 0) = false := by rw [bne_eq_false_iff_eq]; exact h0
    have HA2 : Hid (∀ j, j < i + 1 -> l.getD j 0 % (N : Int) = 0) := fun j hj => by
     by_cases e : j = i
     ·rw [e, <- HXE.out, HRR.out, h0]
     ·exact HA.out j (by omega)
    go_wp2_with fail
    go_roundw
    case rel => exact ⟨i + 1, by omega, by go_num, HA2.out, by trivial⟩
    case measure => simp [intOf]; omega
   ·have hbn : (rr != 0) = true := by rw [bne_iff_ne]; exact h0
    have HF : Hid (dvB l k = false) := by
     show _ = _
     cases h : dvB l k with
     | false => rfl
     | true =>
      have := HDT.out.1 h i hlt;rw [<- HXE.out, HRR.out] at this;exact absurd this h0
    go_wp2_with fail
    go_ret;exact ⟨by rw [HF.out]; rfl, rfl⟩
  ·have HF : Hid (dvB l k = true) := HDT.out.2 (fun j hj => HA.out j (by omega))
   go_wp2_with fail
   go_ret;exact ⟨by rw [HF.out]; rfl, rfl⟩
theorem s_div (l : List Int) (k : Nat) (hk : k <= 62) (lo : OA) (cap : Nat) (w : World) (hl : IntsAt w lo l) : Calls Tryz.prog 117 #[.slice lo l.length cap, .int .i64 (k : Int)] w fun e w' => ∃ ga gc, e = .returned (.slice ga (shrL l k).length gc) /\ Made w ga gc (shrL l k) w' := by
 have h1 := hl.len
 have HL := kQ hl
 have hmk := make_ints l.length (by omega)
 have HLL : Hid ((shrL l k).length = l.length) := shr_len l k
 have HRG : Hid (Rng (shrL l k)) := fun x hx => by
  obtain ⟨y, hy, rfl⟩ := List.mem_map.1 hx;exact div_rng y k (hl.num y hy)
 have HAT : Hid (∀ i, (shrL l k).getD i 0 = l.getD i 0 / 2 ^ k) := fun i => getD_shr l k i
 have HM : Hid (∀ L : List Int, L.length = l.length -> Fill w w.heap.size L 0 (w.alloc (.cells (madeCells #[.int .i64 0] l.length) 3))) := fun L hLl => by
  have := Fill.made w w (Below.refl _ _) L;rw [hLl] at this; exact this
 clear hl
 generalize shrL l k = L at *
 go_enter Tryz.func117, Tryz.ntmps117
 go_wp2_with fail
 generalize hwa : w.alloc _ = wa at *
 have HA := kQ (HM.out L HLL.out)
 clear hwa HM hmk
 go_loopw [6, 7, 13] (fun s6 s7 s13 wr => ∃ i : Nat, i <= l.length /\ s13 = .int .i64 (i : Int) /\ Fill w w.heap.size L i wr) (fun _ _ s13 _ => l.length - (intOf s13).toNat)
 case atStart => exact ⟨0, Nat.zero_le _, rfl, HA.out⟩
 case round =>
  clear HA;obtain ⟨i, hi, rfl, hf⟩ := hrel;have HA := kQ hf;clear hf;by_cases hlt : i < l.length
  ·obtain ⟨b1, o1, rfl, q1⟩ := HL.out.at i hlt
   have r1 := q1 wr HA.out.below;have hrg := HL.out.rng i;have hdr : -9223372036854775808 <= l.getD i 0 / 2 ^ k /\ l.getD i 0 / 2 ^ k <= 9223372036854775807 := div_rng _ k hrg;have HNX : Hid (Fill w w.heap.size L (i + 1) (wr.setCell ⟨w.heap.size, i, none⟩ (.int .i64 (l.getD i 0 / 2 ^ k)))) := by rw [<- HAT.out i]; exact HA.out.set (by rw [HLL.out]; exact hlt)
   obtain ⟨v5, y5⟩ : ∃ v : Int, wr.cell? ⟨w.heap.size, i, none⟩ = some (.int .i64 v) := ⟨_, HA.out.cell i (by rw [HLL.out]; exact hlt)⟩
   have z5 := HA.out.frozen i;clear q1;generalize l.getD i 0 = x at *
   go_wp2_with fail
   go_roundw
   case rel => exact ⟨i + 1, by omega, by go_num, HNX.out⟩
   case measure => simp [intOf]; omega
  ·have hin : i = l.length := by omega
   have HI : Hid (Made w (some ⟨w.heap.size, 0, none⟩) l.length L wr) := Made.of_fill (by rw [HLL.out, <- hin]; exact HA.out) (by rw [HLL.out]; omega) (by rw [HLL.out]; omega) HRG.out
   clear HA
   go_wp2_with fail
   go_ret;exact ⟨_, _, by rw [HLL.out]; rfl, HI.out⟩
theorem all_first (l : List Int) (h : ∀ j, j < l.length -> l.getD j 0 = l.getD 0 0) : ∀ x ∈ l, x = l.getD 0 0 := fun x hx => by
 obtain ⟨j, hj, rfl⟩ := List.getElem_of_mem hx
 have := h j hj
 rw [List.getD_eq_getElem?_getD, List.getElem?_eq_getElem hj] at this
 exact this
abbrev fitOk (q : Sb) (v : Int) (l : List Int) : Prop := (∀ x ∈ l, sigE x v = 0) /\ dvB l q.w.toNat = true /\ (q.k = 0 -> ∀ x ∈ l, x = l.getD 0 0)
theorem s_fit (q : Sb) (ca : OA) (cc : Nat) (pa : OA) (pc : Nat) (ea : OA) (ec : Nat) (k : Nat) (hk : k <= 32) (hqk : q.w = (k : Int)) (l : List Int) (lo : OA) (cap : Nat) (v : Nat) (hv : v <= 63) (bb : Bool) (hbb : bb = true ↔ fitOk q ((v : Int) + 1) l) (w : World) (hl : IntsAt w lo l) : Calls Tryz.prog 114 #[subV q ca cc pa pc ea ec, .int .i64 ((v : Int) + 1), .slice lo l.length cap] w fun e w' => e = .returned (.bool bb) /\ Lo w w' := by
 have h1 := hl.len
 have HL := kQ hl
 have HSX : Hid (SX w q ca cc pa pc ea ec (w.alloc (.cells (subC q ca cc pa pc ea ec) 67))) := SX.new w q ca cc pa pc ea ec
 have HDT : Hid (dvB l k = true ↔ ∀ j, j < l.length -> l.getD j 0 % ((2 ^ k : Nat) : Int) = 0) := dvB_at l k
 have HBB : Hid (bb = true ↔ (∀ x ∈ l, sigE x ((v : Int) + 1) = 0) /\ dvB l k = true /\ (q.k = 0 -> ∀ x ∈ l, x = l.getD 0 0)) := by
  have e : q.w.toNat = k := by omega
  show _ ↔ _;rw [hbb];unfold fitOk;rw [e]
 have KW : Hid (∀ wx, Lo w wx -> ∀ b2, (b2 = true ↔ ∀ x ∈ l, sigE x ((v : Int) + 1) = 0) -> G0 142 #[.slice lo l.length cap, .int .i64 ((v : Int) + 1)] wx (.bool b2)) := fun wx hb b2 h2 => s_within l lo cap v hv b2 h2 wx (hl.below hb)
 have HM : Hid (∀ n : Int, bits BinOp.and IntKind.i64 n ((2 ^ k - 1 : Nat) : Int) = n % ((2 ^ k : Nat) : Int)) := fun n => i64_mask n k (by omega)
 have hp1 : 1 <= 2 ^ k := Nat.one_le_two_pow
 have hp2 : 2 ^ k <= 4294967296 := Nat.le_trans (Nat.pow_le_pow_right (by decide) hk) (by decide)
 have hpw : (2 : Int) ^ k = ((2 ^ k : Nat) : Int) := by simp
 generalize hN : 2 ^ k = N at *
 have hpm : (N : Int) - 1 = ((N - 1 : Nat) : Int) := by omega
 clear hl hN hbb
 go_enter Tryz.func114, Tryz.ntmps114
 go_upto_region 1 with fail
 generalize World.alloc _ _ = wa at *
 go_wp2_with fail
 go_loopw [8, 11] (fun s8 t wr => ∃ i : Nat, i <= l.length /\ t = .int .i64 (i : Int) /\ (∀ j, j < i -> l.getD j 0 % (N : Int) = 0 /\ (q.k = 0 -> l.getD j 0 = l.getD 0 0)) /\ wr = wa) (fun _ t _ => l.length - (intOf t).toNat)
 case atStart => exact ⟨0, Nat.zero_le _, rfl, fun j hj => absurd hj (Nat.not_lt_zero _), rfl⟩
 case round =>
  obtain ⟨i, hi, rfl, hall, rfl⟩ := hrel;have HA := kQ hall;clear hall;by_cases hlt : i < l.length
  focus
   obtain ⟨b1, o1, rfl, q1⟩ := HL.out.at i hlt;have r1 := q1 wr HSX.out.below;have r0 := (HL.out.below HSX.out.below).get 0 (by omega)
   rw [Nat.add_zero] at r0;have hl0 : 0 < l.length := by omega
   have hb := HM.out (l.getD i 0);obtain ⟨x0, x1, x2, x3, x4, x5, x6, x7, x8, x9⟩ := sub_cells HSX.out.box;rw [hqk] at x2;clear q1;obtain ⟨x, hx⟩ : ∃ x, x = l.getD i 0 := ⟨_, rfl⟩;have HXE := kQ hx;rw [<- hx] at r1 hb;obtain ⟨y, hy⟩ : ∃ y, y = l.getD 0 0 := ⟨_, rfl⟩;have HYE := kQ hy;rw [<- hy] at r0;clear hx hy;generalize hrr : x % (N : Int) = rr at *;have HRR := kQ hrr;clear hrr;by_cases h0 : rr = 0
   focus
    have hbn : (rr != 0) = false := by rw [bne_eq_false_iff_eq]; exact h0
    by_cases hk0 : q.k = 0
    focus
     by_cases hxy : x = y
     focus
      have HA2 : Hid (∀ j, j < i + 1 -> l.getD j 0 % (N : Int) = 0 /\ (q.k = 0 -> l.getD j 0 = l.getD 0 0)) := fun j hj => by
       by_cases e : j = i
       ·rw [e, <- HXE.out]; exact ⟨HRR.out.trans h0, fun _ => by rw [hxy, HYE.out]⟩
       ·exact HA.out j (by omega)
      have hb2 : (x != y) = false := by rw [bne_eq_false_iff_eq]; exact hxy
      have hb3 : (q.k == 0) = true := by rw [beq_iff_eq]; exact hk0
      clear hxy
     rotate_left
     ·have HF : Hid (bb = false) := bb_no HBB.out (fun h => hxy (by rw [HXE.out, HYE.out]; exact h.2.2 hk0 _ (getD_mem l i hlt)))
      have hb2 : (x != y) = true := by rw [bne_iff_ne]; exact hxy
      have hb3 : (q.k == 0) = true := by rw [beq_iff_eq]; exact hk0
      go_wp2_with fail
      go_ret;exact ⟨by rw [HF.out]; rfl, HSX.out.below⟩
    rotate_left
    focus
     have HA2 : Hid (∀ j, j < i + 1 -> l.getD j 0 % (N : Int) = 0 /\ (q.k = 0 -> l.getD j 0 = l.getD 0 0)) := fun j hj => by
      by_cases e : j = i
      ·rw [e, <- HXE.out]; exact ⟨HRR.out.trans h0, fun h => absurd h hk0⟩
      ·exact HA.out j (by omega)
     have hb3 : (q.k == 0) = false := by rw [beq_eq_false_iff_ne]; exact hk0
    rotate_left
   rotate_left 2
   ·have HF : Hid (bb = false) := bb_no HBB.out (fun h => h0 (by rw [<- HRR.out, HXE.out]; exact HDT.out.1 h.2.1 i hlt))
    have hbn : (rr != 0) = true := by rw [bne_iff_ne]; exact h0
    go_wp2_with fail
    go_ret;exact ⟨by rw [HF.out]; rfl, HSX.out.below⟩
  rotate_left 2
  ·have HAA : Hid (dvB l k = true /\ (q.k = 0 -> ∀ x ∈ l, x = l.getD 0 0)) := ⟨HDT.out.2 (fun j hj => (HA.out j (by omega)).1), fun h => all_first l (fun j hj => (HA.out j (by omega)).2 h)⟩
   have kk := KW.out wr HSX.out.below bb ⟨fun h => (HBB.out.1 h).1, fun h => HBB.out.2 ⟨h, HAA.out⟩⟩
   go_wp2_with fail
   refine kk.mono ?_;rintro e w2 ⟨rfl, hw2⟩;subst hw2
   go_wp2_with fail
   go_ret;exact ⟨rfl, HSX.out.below⟩
  all_goals
   go_wp2_with fail
   go_roundw
   case rel => exact ⟨i + 1, by omega, by go_num, HA2.out, by trivial⟩
   case measure => simp [intOf]; omega
def leftR (q : Sb) (m : List Int) : Option (List Int) := if q.k = 2 then fixR q.o m else lpcR q.C q.h m
theorem s_left (q : Sb) (ca : OA) (cc : Nat) (pa : OA) (pc : Nat) (ea : OA) (ec : Nat) (m : List Int) (ma : OA) (mc : Nat) (hmc : m.length <= mc) (R : List Int) (hR : leftR q m = some R) (w : World) (hC : IntsAt w ca q.C) (hm : IntsAt w ma m) : Calls Tryz.prog 159 #[subV q ca cc pa pc ea ec, .slice ma m.length mc] w fun e w' => ∃ la lc, e = .returned (.tuple #[.slice la R.length lc, .int .i64 0]) /\ Made w la lc R w' := by
 have HA : Hid (SX w q ca cc pa pc ea ec (w.alloc (.cells (subC q ca cc pa pc ea ec) 67))) := SX.new w q ca cc pa pc ea ec
 by_cases k2 : q.k = 2
 focus
  have hbk : (q.k == 2) = true := by rw [beq_iff_eq]; exact k2
  have HK : Hid (∀ wx, Lo w wx -> Calls Tryz.prog 188 #[.int .i64 q.o, .slice ma m.length mc] wx fun e w' => ∃ la lc, e = .returned (.tuple #[.slice la R.length lc, .int .i64 0]) /\ Made wx la lc R w') := fun wx hb => by
   have h := qfixed_spec q.o m ma mc hmc wx (hm.below hb);unfold leftR at hR;rw [if_pos k2] at hR;rw [hR] at h;exact h
 rotate_left
 focus
  have hbk : (q.k == 2) = false := by rw [beq_eq_false_iff_ne]; exact k2
  have HK : Hid (∀ wx, Lo w wx -> Calls Tryz.prog 189 #[.slice ca q.C.length cc, .int .i64 q.h, .slice ma m.length mc] wx fun e w' => ∃ la lc, e = .returned (.tuple #[.slice la R.length lc, .int .i64 0]) /\ Made wx la lc R w') := fun wx hb => by
   have h := qlpc_spec q.C m q.h ca ma cc mc hmc wx (hC.below hb) (hm.below hb);unfold leftR at hR;rw [if_neg k2] at hR;rw [hR] at h;exact h
 rotate_left
 all_goals
  clear hR hC hm k2;go_enter Tryz.func159, Tryz.ntmps159
  go_upto_region 1 with fail
  generalize World.alloc _ _ = wa at *;obtain ⟨x0, x1, x2, x3, x4, x5, x6, x7, x8, x9⟩ := sub_cells HA.out.box
  go_wp2_with fail
  refine (HK.out _ HA.out.below).mono ?_;rintro e w2 ⟨la, lc, rfl, hmd⟩;have HM := kQ (hmd.up HA.out.below);clear hmd x0 x1 x2 x3 x4 x5 x6 x7 x8 x9
  go_wp2_with fail
  go_ret2
  exact ⟨_, _, rfl, HM.out⟩
end Go.Proofs.YtfpfabmbipmipaaGreatDoor
