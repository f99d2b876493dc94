/- Own text. -/
import Derived.Test.YthgpleelpeacjaaGreatDoorE16
set_option linter.unusedSimpArgs false
set_option linter.unusedVariables false
set_option maxRecDepth 20000
set_option maxHeartbeats 12800000
namespace Go.Proofs.YthgpleelpeacjaaGreatDoor
open Go.RowKit
theorem nums_flat (v : Int) (h1 : ¬ v = -1) (h0 : ¬ v = 0) (x : Int) : oneB 0 v x = sigB x v := by unfold oneB; rw [if_neg h1, if_neg h0]
theorem s_each (X : List Int) (v : Int) (hv : 1 ≤ v ∧ v ≤ 64) (xo : Option Addr) (cap : Nat) (p : Nat) (ao : Option Addr) (B : List Nat) (h01 : Bits01 B) (hB : B.length + 17000000 * X.length ≤ 6000000000000) (w : World) (hx : IntsAt w xo X) (hw : WrB w p ao B) (a3 : Apart p ao xo X) :
  Calls Tryz.prog 132 #[.pointer (some ⟨p, 0, none⟩), .slice xo X.length cap, .int .i64 v] w fun en w' => en = .returned (.tuple #[]) ∧ ∃ ao', WrB w' p ao' (B ++ numsB 0 v X) ∧ Stays (foot p ao) w w' ∧ Moved w.heap.size ao ao' := by
 have hlX := hx.len
 have HA0 : Hid (WB w p ao ao B w.heap.size w) := WB.start hw (Below.refl _ _) _ (Nat.le_refl _)
 have HPE : Hid (∀ ao' B' K wx, WB w p ao ao' B' K wx → IntsAt wx xo X) := fun ao' B' K wx hh => hh.ints hx a3
 have HXA : Hid (∀ j, j < X.length → ∃ b off, xo = some ⟨b, off, none⟩) := fun j hj => hx.addr (by omega)
 clear hw a3 hx
 go_enter Tryz.func132, Tryz.ntmps132
 go_wp2_with fail
 go_loopw [7, 10] (fun s7 s10 wr => ∃ (j : Nat) (aj : Option Addr), j ≤ X.length ∧ s10 = .int .i64 (j : Int) ∧ WB w p ao aj (B ++ numsB 0 v (X.take j)) w.heap.size wr) (fun _ s10 _ => X.length - (intOf s10).toNat)
 case atStart => exact ⟨0, ao, Nat.zero_le _, rfl, by rw [List.take_zero, numsB_nil, List.append_nil]; exact HA0.out⟩
 case round =>
  clear HA0
  obtain ⟨j, aj, hj, rfl, hwb⟩ := hrel
  have HA : Hid (WB w p ao aj (B ++ numsB 0 v (X.take j)) w.heap.size wr) := hwb
  clear hwb
  by_cases hlt : j < X.length
  ·obtain ⟨bx, ox, rfl⟩ := HXA.out j hlt
   have r3 := (HPE.out _ _ _ _ HA.out).get j hlt
   have HT : Hid (numsB 0 v (X.take (j + 1)) = numsB 0 v (X.take j) ++ oneB 0 v (X.getD j 0)) := by show _ = _; rw [take_snoc X j hlt, numsB_snoc]
   have hlen : (B ++ numsB 0 v (X.take j)).length ≤ 6000000000000 := by
    rw [List.length_append]
    have := numsB_len 0 v (X.take j)
    rw [List.length_take] at this
    have : 17000000 * min j X.length ≤ 17000000 * X.length := Nat.mul_le_mul_left _ (Nat.min_le_right _ _)
    omega
   have h01' : Bits01 (B ++ numsB 0 v (X.take j)) := h01.append (numsB_01 _ _ _)
   generalize X.getD j 0 = x at *
   generalize hBJ : B ++ numsB 0 v (X.take j) = BJ at *
   have HGO : Hid (B ++ numsB 0 v (X.take (j + 1)) = BJ ++ sigB x v) := by show _ = _; rw [HT.out, ← List.append_assoc, hBJ, nums_flat v (by omega) (by omega)]
   clear hBJ HT
   have kp := wsig_all wr aj BJ p x v h01' (by omega) HA.out.wr
   go_wp2_with fail
   refine kp.mono ?_
   rintro e w3 ⟨rfl, ao3, hw3, hs3, hv3⟩
   have HE : Hid (WB w p ao ao3 (BJ ++ sigB x v) w.heap.size w3) := HA.out.put hw3 hs3 hv3
   clear hw3 hs3 hv3 kp r3
   go_wp2_with fail
   go_roundw
   case rel => exact ⟨j + 1, ao3, by omega, by go_num, by rw [HGO.out]; exact HE.out⟩
   case measure => simp [intOf]; omega
  ·have hjl : j = X.length := by omega
   subst hjl
   rw [List.take_length] at HA
   go_wp2_with fail
   go_end0
   exact ⟨rfl, aj, HA.out.wr, HA.out.st, HA.out.mv⟩
theorem put_seven : ∀ t : Nat, t < 64 → bitsOf 0 1 ++ bitsOf t 6 = bitsOf t 7 := by decide
theorem putB_seven (t : Int) (h0 : 0 ≤ t) (h1 : t ≤ 63) : putB 0 1 ++ putB t 6 = putB t 7 := by
 obtain ⟨n, rfl⟩ : ∃ n : Nat, t = n := ⟨t.toNat, by omega⟩
 have e1 : putB 0 1 = bitsOf 0 1 := rfl
 have e6 : putB (n : Int) 6 = bitsOf n 6 := by
  unfold putB
  rw [if_pos ⟨by decide, by decide, by show (n : Int) < 64; omega⟩]; rfl
 have e7 : putB (n : Int) 7 = bitsOf n 7 := by
  unfold putB
  rw [if_pos ⟨by decide, by decide, by show (n : Int) < 128; omega⟩]; rfl
 rw [e1, e6, e7, put_seven n (by omega)]
theorem s_head (q : Sb) (ca : Option Addr) (cc : Nat) (pa : Option Addr) (pc : Nat) (ea : Option Addr) (ec : Nat) (ho : 0 ≤ q.o ∧ q.o ≤ 32) (hw0 : 0 ≤ q.w) (hw1 : q.w ≤ 32) (p : Nat) (ao : Option Addr) (B : List Nat) (h01 : Bits01 B) (hB : B.length ≤ 2000000000000) (w : World) (hw : WrB w p ao B) :
  Calls Tryz.prog 68 #[.pointer (some ⟨p, 0, none⟩), subV q ca cc pa pc ea ec] w fun en w' => en = .returned (.tuple #[]) ∧ ∃ ao', WrB w' p ao' (B ++ (putB (typN q) 7 ++ wstB q.w)) ∧ Stays (foot p ao) w w' ∧ Moved w.heap.size ao ao' := by
 have HT : Hid (∀ wx a, a = subV q ca cc pa pc ea ec → Calls Tryz.prog 130 #[a] wx fun e w' => e = .returned (.int .i64 (typN q)) ∧ Below wx.heap.size wx w') := fun wx a ha => by rw [ha]; exact s_type q ca cc pa pc ea ec ho wx
 have ht0 : 0 ≤ typN q := by unfold typN; split; omega; split; omega; split <;> omega
 have ht1 : typN q ≤ 63 := by unfold typN; split; omega; split; omega; split <;> omega
 have HS : Hid (putB 0 1 ++ putB (typN q) 6 = putB (typN q) 7) := putB_seven _ ht0 ht1
 have H0 : Hid (WB w p ao ao B (w.heap.size + 1) (w.alloc (.cells (subC q ca cc pa pc ea ec) 27))) := WB.start hw ((Below.refl _ _).alloc (Nat.le_refl _) _) _ (by simp)
 have X0 : Hid ((w.alloc (.cells (subC q ca cc pa pc ea ec) 27)).heap[w.heap.size]? = some (.cells (subC q ca cc pa pc ea ec) 27 (0, 0))) := heap_alloc_new _ _
 obtain ⟨B0, rfl⟩ : ∃ X, X = B := ⟨_, rfl⟩
 have o0 := h01
 clear hw h01
 generalize typN q = ty at *
 go_enter Tryz.func68, Tryz.ntmps68
 go_upto_region 1 with fail
 generalize hwa : World.alloc _ _ = wa at *
 clear hwa
 go_wp2_with fail
 refine (wput_all wa ao B0 p 0 1 (by decide) (by decide) o0 (by omega) H0.out.wr).mono ?_
 rintro e w1 ⟨rfl, ao1, hw_, hs_, hv_⟩
 obtain ⟨B1, e1, o1, l1⟩ : ∃ X, X = B0 ++ putB 0 1 ∧ Bits01 X ∧ X.length ≤ B0.length + 17000000 := ⟨_, rfl, o0.append (putB_01 _ _), by rw [List.length_append]; have := putB_len 0 1; omega⟩
 rw [← e1] at hw_
 have H1 : Hid (WB w p ao ao1 B1 (w.heap.size + 1) w1) := H0.out.put hw_ hs_ hv_
 have X1 : Hid (w1.heap[w.heap.size]? = some (.cells (subC q ca cc pa pc ea ec) 27 (0, 0))) := by show _ = _; rw [H0.out.box hs_ _ (Nat.le_refl _) (by omega)]; exact X0.out
 have E1 : Hid (B1 = B0 ++ putB 0 1) := e1
 clear hw_ hs_ hv_ e1
 clear H0 X0
 obtain ⟨x0, x1, x2, x3, x4, x5, x6, x7, x8, x9⟩ := sub_cells X1.out
 go_wp2_with fail
 refine (HT.out _ _ (by simp)).mono ?_
 rintro e w2 ⟨rfl, hb2⟩
 have H1' : Hid (WB w p ao ao1 B1 (w.heap.size + 1) w2) := H1.out.low hb2
 have X1' : Hid (w2.heap[w.heap.size]? = some (.cells (subC q ca cc pa pc ea ec) 27 (0, 0))) := by show _ = _; rw [hb2.block _ (lt_of_block X1.out)]; exact X1.out
 clear hb2 HT H1 X1 x0 x1 x2 x3 x4 x5 x6 x7 x8 x9
 go_wp2_with fail
 refine (wput_all w2 ao1 B1 p ty 6 ht0 (by omega) o1 (by omega) H1'.out.wr).mono ?_
 rintro e w3 ⟨rfl, ao2, hw_, hs_, hv_⟩
 obtain ⟨B2, e2, o2, l2⟩ : ∃ X, X = B1 ++ putB ty 6 ∧ Bits01 X ∧ X.length ≤ B1.length + 17000000 := ⟨_, rfl, o1.append (putB_01 _ _), by rw [List.length_append]; have := putB_len ty 6; omega⟩
 rw [← e2] at hw_
 have H2 : Hid (WB w p ao ao2 B2 (w.heap.size + 1) w3) := H1'.out.put hw_ hs_ hv_
 have X2 : Hid (w3.heap[w.heap.size]? = some (.cells (subC q ca cc pa pc ea ec) 27 (0, 0))) := by show _ = _; rw [H1'.out.box hs_ _ (Nat.le_refl _) (by omega)]; exact X1'.out
 have E2 : Hid (B2 = B1 ++ putB ty 6) := e2
 clear hw_ hs_ hv_ e2
 clear H1' X1'
 obtain ⟨x0, x1, x2, x3, x4, x5, x6, x7, x8, x9⟩ := sub_cells X2.out
 by_cases hz : q.w = 0
 ·have hbz : (q.w == 0) = true := by rw [beq_iff_eq]; exact hz
  have HW : Hid (wstB q.w = putB 0 1) := by show _ = _; unfold wstB; rw [if_neg (by omega)]
  go_wp2_with fail
  refine (wput_all w3 ao2 B2 p 0 1 (by decide) (by decide) o2 (by omega) H2.out.wr).mono ?_
  rintro e w4 ⟨rfl, ao3, hw_, hs_, hv_⟩
  obtain ⟨B3, e3, o3, l3⟩ : ∃ X, X = B2 ++ putB 0 1 ∧ Bits01 X ∧ X.length ≤ B2.length + 17000000 := ⟨_, rfl, o2.append (putB_01 _ _), by rw [List.length_append]; have := putB_len 0 1; omega⟩
  rw [← e3] at hw_
  have H3 : Hid (WB w p ao ao3 B3 (w.heap.size + 1) w4) := H2.out.put hw_ hs_ hv_
  have X3 : Hid (w4.heap[w.heap.size]? = some (.cells (subC q ca cc pa pc ea ec) 27 (0, 0))) := by show _ = _; rw [H2.out.box hs_ _ (Nat.le_refl _) (by omega)]; exact X2.out
  have E3 : Hid (B3 = B2 ++ putB 0 1) := e3
  clear hw_ hs_ hv_ e3
  clear x0 x1 x2 x3 x4 x5 x6 x7 x8 x9
  have HZ : Hid (WB w p ao ao3 (B0 ++ (putB ty 7 ++ wstB q.w)) (w.heap.size + 1) w4) := by rw [HW.out, ← HS.out, List.append_assoc, ← List.append_assoc B0, ← E1.out, ← List.append_assoc, ← E2.out, ← E3.out]; exact H3.out
  go_wp2_with fail
  first | go_end0 | (refine bodyPost_ret (v := .tuple #[]) (by rw [results_none rfl]) rfl ?_)
  exact ⟨rfl, _, HZ.out.wr, HZ.out.st, HZ.out.mv⟩
 ·have hbz : (q.w == 0) = false := by rw [beq_eq_false_iff_ne]; exact hz
  have HW : Hid (wstB q.w = putB 1 1 ++ unrB (q.w - 1)) := by show _ = _; unfold wstB; rw [if_pos (by omega)]
  go_wp2_with fail
  refine (wput_all w3 ao2 B2 p 1 1 (by decide) (by decide) o2 (by omega) H2.out.wr).mono ?_
  rintro e w4 ⟨rfl, ao3, hw_, hs_, hv_⟩
  obtain ⟨B3, e3, o3, l3⟩ : ∃ X, X = B2 ++ putB 1 1 ∧ Bits01 X ∧ X.length ≤ B2.length + 17000000 := ⟨_, rfl, o2.append (putB_01 _ _), by rw [List.length_append]; have := putB_len 1 1; omega⟩
  rw [← e3] at hw_
  have H3 : Hid (WB w p ao ao3 B3 (w.heap.size + 1) w4) := H2.out.put hw_ hs_ hv_
  have X3 : Hid (w4.heap[w.heap.size]? = some (.cells (subC q ca cc pa pc ea ec) 27 (0, 0))) := by show _ = _; rw [H2.out.box hs_ _ (Nat.le_refl _) (by omega)]; exact X2.out
  have E3 : Hid (B3 = B2 ++ putB 1 1) := e3
  clear hw_ hs_ hv_ e3
  clear x0 x1 x2 x3 x4 x5 x6 x7 x8 x9
  obtain ⟨x0, x1, x2, x3, x4, x5, x6, x7, x8, x9⟩ := sub_cells X3.out
  go_wp2_with fail
  refine (wunr_all w4 ao3 B3 p (q.w - 1) o3 (by omega) H3.out.wr).mono ?_
  rintro e w5 ⟨rfl, ao4, hw_, hs_, hv_⟩
  obtain ⟨B4, e4, o4, l4⟩ : ∃ X, X = B3 ++ unrB (q.w - 1) ∧ Bits01 X ∧ X.length ≤ B3.length + 17000000 := ⟨_, rfl, o3.append (unrB_01 _), by rw [List.length_append]; have := unrB_len (q.w - 1); omega⟩
  rw [← e4] at hw_
  have H4 : Hid (WB w p ao ao4 B4 (w.heap.size + 1) w5) := H3.out.put hw_ hs_ hv_
  have X4 : Hid (w5.heap[w.heap.size]? = some (.cells (subC q ca cc pa pc ea ec) 27 (0, 0))) := by show _ = _; rw [H3.out.box hs_ _ (Nat.le_refl _) (by omega)]; exact X3.out
  have E4 : Hid (B4 = B3 ++ unrB (q.w - 1)) := e4
  clear hw_ hs_ hv_ e4
  clear x0 x1 x2 x3 x4 x5 x6 x7 x8 x9
  have HZ : Hid (WB w p ao ao4 (B0 ++ (putB ty 7 ++ wstB q.w)) (w.heap.size + 1) w5) := by rw [HW.out, ← HS.out, List.append_assoc, ← List.append_assoc B0, ← E1.out, ← List.append_assoc, ← E2.out, ← List.append_assoc, ← E3.out, ← E4.out]; exact H4.out
  go_wp2_with fail
  go_end0
  exact ⟨rfl, _, HZ.out.wr, HZ.out.st, HZ.out.mv⟩
theorem i64_mask (n : Int) (k : Nat) (hk : k ≤ 62) : bits BinOp.and IntKind.i64 n ((2 ^ k - 1 : Nat) : Int) = n % ((2 ^ k : Nat) : Int) := by
 show IntKind.i64.wrap ((BitVec.ofInt 64 n &&& BitVec.ofInt 64 ((2 ^ k - 1 : Nat) : Int)).toNat : Int) = _
 have h1 : (2 : Nat) ^ k ≤ 2 ^ 62 := Nat.pow_le_pow_right (by decide) hk
 have h0 : 0 < (2 : Nat) ^ k := Nat.two_pow_pos k
 have e62 : (2 : Nat) ^ 62 = 4611686018427387904 := by decide
 have e2 : (BitVec.ofInt 64 ((2 ^ k - 1 : Nat) : Int)).toNat = 2 ^ k - 1 := by
  rw [BitVec.toNat_ofInt]
  have e64 : (2 : Nat) ^ 64 = 18446744073709551616 := by decide
  have : (((2 ^ k - 1 : Nat) : Int) % ((2 ^ 64 : Nat) : Int)) = ((2 ^ k - 1 : Nat) : Int) := Int.emod_eq_of_lt (by omega) (by omega)
  rw [this]; rfl
 rw [BitVec.toNat_and, BitVec.toNat_ofInt, e2, Nat.and_two_pow_sub_one_eq_mod]
 have hd : ((2 ^ k : Nat) : Int) ∣ ((2 ^ 64 : Nat) : Int) := Int.natCast_dvd_natCast.2 (Nat.pow_dvd_pow 2 (by omega))
 have e3 : (((n % ((2 ^ 64 : Nat) : Int)).toNat % 2 ^ k : Nat) : Int) = n % ((2 ^ k : Nat) : Int) := by
  rw [Int.natCast_emod, Int.toNat_of_nonneg (Int.emod_nonneg _ (by decide)), Int.emod_emod_of_dvd _ hd]
 rw [e3]
 have h2 := Int.emod_nonneg n (show ((2 ^ k : Nat) : Int) ≠ 0 by omega)
 have h3 := Int.emod_lt_of_pos n (show (0 : Int) < ((2 ^ k : Nat) : Int) by omega)
 rw [IntKind.wrap_i64]
 omega
theorem dvB_at (l : List Int) (k : Nat) : dvB l k = true ↔ ∀ j, j < l.length → l.getD j 0 % ((2 ^ k : Nat) : Int) = 0 := by
 rw [dvB_iff]
 have e : ((2 ^ k : Nat) : Int) = (2 : Int) ^ k := by simp
 rw [e]
 constructor
 ·intro h j hj
  refine h _ ?_
  rw [List.getD_eq_getElem?_getD, List.getElem?_eq_getElem hj]; exact List.getElem_mem hj
 ·intro h n hn
  obtain ⟨j, hj, rfl⟩ := List.getElem_of_mem hn
  have := h j hj
  rw [List.getD_eq_getElem?_getD, List.getElem?_eq_getElem hj] at this
  exact this
theorem s_div (l : List Int) (k : Nat) (hk : k ≤ 62) (lo : Option Addr) (cap : Nat) (w : World) (hl : IntsAt w lo l) : Calls Tryz.prog 70 #[.slice lo l.length cap, .int .i64 (k : Int)] w fun e w' => ∃ ga gc, e = .returned (.slice ga (shrL l k).length gc) ∧ Made w ga gc (shrL l k) w' := by
 have h1 := hl.len
 have HL : Hid (IntsAt w lo l) := hl
 have hmk := make_ints l.length (by omega)
 have HLL : Hid ((shrL l k).length = l.length) := shr_len l k
 have HRG : Hid (Rng (shrL l k)) := fun x hx => by
  obtain ⟨y, hy, rfl⟩ := List.mem_map.1 hx
  exact div_rng y k (hl.num y hy)
 have HAT : Hid (∀ i, (shrL l k).getD i 0 = l.getD i 0 / 2 ^ k) := fun i => getD_shr l k i
 have HM : Hid (∀ L : List Int, L.length = l.length → Fill w w.heap.size L 0 (w.alloc (.cells (madeCells #[.int .i64 0] l.length) 3))) := fun L hLl => by
  have := Fill.made w w (Below.refl _ _) L
  rw [hLl] at this; exact this
 clear hl
 generalize shrL l k = L at *
 go_enter Tryz.func70, Tryz.ntmps70
 go_wp2_with fail
 generalize hwa : w.alloc _ = wa at *
 have HA : Hid (Fill w w.heap.size L 0 wa) := HM.out L HLL.out
 clear hwa HM hmk
 go_loopw [6, 7, 13] (fun s6 s7 s13 wr => ∃ i : Nat, i ≤ l.length ∧ s13 = .int .i64 (i : Int) ∧ Fill w w.heap.size L i wr) (fun _ _ s13 _ => l.length - (intOf s13).toNat)
 case atStart => exact ⟨0, Nat.zero_le _, rfl, HA.out⟩
 case round =>
  clear HA
  obtain ⟨i, hi, rfl, hf⟩ := hrel
  have HA : Hid (Fill w w.heap.size L i wr) := hf
  clear hf
  by_cases hlt : i < l.length
  ·obtain ⟨b1, o1, rfl, q1⟩ := HL.out.at i hlt
   have r1 := q1 wr HA.out.below
   have hrg := HL.out.rng i
   have hdr : -9223372036854775808 ≤ l.getD i 0 / 2 ^ k ∧ l.getD i 0 / 2 ^ k ≤ 9223372036854775807 := div_rng _ k hrg
   have HNX : Hid (Fill w w.heap.size L (i + 1) (wr.setCell ⟨w.heap.size, i, none⟩ (.int .i64 (l.getD i 0 / 2 ^ k)))) := by rw [← HAT.out i]; exact HA.out.set (by rw [HLL.out]; exact hlt)
   obtain ⟨v5, y5⟩ : ∃ v : Int, wr.cell? ⟨w.heap.size, i, none⟩ = some (.int .i64 v) := ⟨_, HA.out.cell i (by rw [HLL.out]; exact hlt)⟩
   have z5 := HA.out.frozen i
   clear q1
   generalize l.getD i 0 = x at *
   go_wp2_with fail
   go_roundw
   case rel => exact ⟨i + 1, by omega, by go_num, HNX.out⟩
   case measure => simp [intOf]; omega
  ·have hin : i = l.length := by omega
   have HI : Hid (Made w (some ⟨w.heap.size, 0, none⟩) l.length L wr) := Made.of_fill (by rw [HLL.out, ← hin]; exact HA.out) (by rw [HLL.out]; omega) (by rw [HLL.out]; omega) HRG.out
   clear HA
   go_wp2_with fail
   go_ret
   exact ⟨_, _, by rw [HLL.out]; rfl, HI.out⟩
theorem all_first (l : List Int) (h : ∀ j, j < l.length → l.getD j 0 = l.getD 0 0) : ∀ x ∈ l, x = l.getD 0 0 := fun x hx => by
 obtain ⟨j, hj, rfl⟩ := List.getElem_of_mem hx
 have := h j hj
 rw [List.getD_eq_getElem?_getD, List.getElem?_eq_getElem hj] at this
 exact this
abbrev fitOk (q : Sb) (v : Int) (l : List Int) : Prop := (∀ x ∈ l, sigE x v = 0) ∧ dvB l q.w.toNat = true ∧ (q.k = 0 → ∀ x ∈ l, x = l.getD 0 0)
theorem s_fit (q : Sb) (ca : Option Addr) (cc : Nat) (pa : Option Addr) (pc : Nat) (ea : Option Addr) (ec : Nat) (k : Nat) (hk : k ≤ 32) (hqk : q.w = (k : Int)) (l : List Int) (lo : Option Addr) (cap : Nat) (v : Nat) (hv : v ≤ 63) (bb : Bool) (hbb : bb = true ↔ fitOk q ((v : Int) + 1) l) (w : World) (hl : IntsAt w lo l) : Calls Tryz.prog 67 #[subV q ca cc pa pc ea ec, .int .i64 ((v : Int) + 1), .slice lo l.length cap] w fun e w' => e = .returned (.bool bb) ∧ Below w.heap.size w w' := by
 have h1 := hl.len
 have HL : Hid (IntsAt w lo l) := hl
 have HSX : Hid (SX w q ca cc pa pc ea ec (w.alloc (.cells (subC q ca cc pa pc ea ec) 27))) := SX.new w q ca cc pa pc ea ec
 have HDT : Hid (dvB l k = true ↔ ∀ j, j < l.length → l.getD j 0 % ((2 ^ k : Nat) : Int) = 0) := dvB_at l k
 have HBB : Hid (bb = true ↔ (∀ x ∈ l, sigE x ((v : Int) + 1) = 0) ∧ dvB l k = true ∧ (q.k = 0 → ∀ x ∈ l, x = l.getD 0 0)) := by
  have e : q.w.toNat = k := by omega
  show _ ↔ _
  rw [hbb]
  unfold fitOk
  rw [e]
 have KW : Hid (∀ wx, Below w.heap.size w wx → ∀ b2, (b2 = true ↔ ∀ x ∈ l, sigE x ((v : Int) + 1) = 0) → Calls Tryz.prog 129 #[.slice lo l.length cap, .int .i64 ((v : Int) + 1)] wx fun e w' => e = .returned (.bool b2) ∧ w' = wx) := fun wx hb b2 h2 => s_within l lo cap v hv b2 h2 wx (hl.below hb)
 have HM : Hid (∀ n : Int, bits BinOp.and IntKind.i64 n ((2 ^ k - 1 : Nat) : Int) = n % ((2 ^ k : Nat) : Int)) := fun n => i64_mask n k (by omega)
 have hp1 : 1 ≤ 2 ^ k := Nat.one_le_two_pow
 have hp2 : 2 ^ k ≤ 4294967296 := Nat.le_trans (Nat.pow_le_pow_right (by decide) hk) (by decide)
 have hpw : (2 : Int) ^ k = ((2 ^ k : Nat) : Int) := by simp
 generalize hN : 2 ^ k = N at *
 have hpm : (N : Int) - 1 = ((N - 1 : Nat) : Int) := by omega
 clear hl hN hbb
 go_enter Tryz.func67, Tryz.ntmps67
 go_upto_region 1 with fail
 generalize hwa : World.alloc _ _ = wa at *
 clear hwa
 go_wp2_with fail
 go_loopw [8, 11] (fun s8 t wr => ∃ i : Nat, i ≤ l.length ∧ t = .int .i64 (i : Int) ∧ (∀ j, j < i → l.getD j 0 % (N : Int) = 0 ∧ (q.k = 0 → l.getD j 0 = l.getD 0 0)) ∧ wr = wa) (fun _ t _ => l.length - (intOf t).toNat)
 case atStart => exact ⟨0, Nat.zero_le _, rfl, fun j hj => absurd hj (Nat.not_lt_zero _), rfl⟩
 case round =>
  obtain ⟨i, hi, rfl, hall, rfl⟩ := hrel
  have HA : Hid (∀ j, j < i → l.getD j 0 % (N : Int) = 0 ∧ (q.k = 0 → l.getD j 0 = l.getD 0 0)) := hall
  clear hall
  by_cases hlt : i < l.length
  ·obtain ⟨b1, o1, rfl, q1⟩ := HL.out.at i hlt
   have r1 := q1 wr HSX.out.below
   have r0 := (HL.out.below HSX.out.below).get 0 (by omega)
   rw [Nat.add_zero] at r0
   have hl0 : 0 < l.length := by omega
   have hb := HM.out (l.getD i 0)
   obtain ⟨x0, x1, x2, x3, x4, x5, x6, x7, x8, x9⟩ := sub_cells HSX.out.box
   rw [hqk] at x2
   clear q1
   obtain ⟨x, hx⟩ : ∃ x, x = l.getD i 0 := ⟨_, rfl⟩
   have HXE : Hid (x = l.getD i 0) := hx
   rw [← hx] at r1 hb
   obtain ⟨y, hy⟩ : ∃ y, y = l.getD 0 0 := ⟨_, rfl⟩
   have HYE : Hid (y = l.getD 0 0) := hy
   rw [← hy] at r0
   clear hx hy
   generalize hrr : x % (N : Int) = rr at *
   have HRR : Hid (x % (N : Int) = rr) := hrr
   clear hrr
   by_cases h0 : rr = 0
   ·have hbn : (rr != 0) = false := by rw [bne_eq_false_iff_eq]; exact h0
    by_cases hk0 : q.k = 0
    ·by_cases hxy : x = y
     ·have HA2 : Hid (∀ j, j < i + 1 → l.getD j 0 % (N : Int) = 0 ∧ (q.k = 0 → l.getD j 0 = l.getD 0 0)) := fun j hj => by
       by_cases e : j = i
       ·rw [e, ← HXE.out]; exact ⟨HRR.out.trans h0, fun _ => by rw [hxy, HYE.out]⟩
       ·exact HA.out j (by omega)
      have hb2 : (x != y) = false := by rw [bne_eq_false_iff_eq]; exact hxy
      have hb3 : (q.k == 0) = true := by rw [beq_iff_eq]; exact hk0
      clear hxy
      go_wp2_with fail
      go_roundw
      case rel => exact ⟨i + 1, by omega, by go_num, HA2.out, by trivial⟩
      case measure => simp [intOf]; omega
     ·have HF : Hid (bb = false) := bb_no HBB.out (fun h => hxy (by rw [HXE.out, HYE.out]; exact h.2.2 hk0 _ (getD_mem l i hlt)))
      have hb2 : (x != y) = true := by rw [bne_iff_ne]; exact hxy
      have hb3 : (q.k == 0) = true := by rw [beq_iff_eq]; exact hk0
      go_wp2_with fail
      go_ret
      exact ⟨by rw [HF.out]; rfl, HSX.out.below⟩
    ·have HA2 : Hid (∀ j, j < i + 1 → l.getD j 0 % (N : Int) = 0 ∧ (q.k = 0 → l.getD j 0 = l.getD 0 0)) := fun j hj => by
      by_cases e : j = i
      ·rw [e, ← HXE.out]; exact ⟨HRR.out.trans h0, fun h => absurd h hk0⟩
      ·exact HA.out j (by omega)
     have hb3 : (q.k == 0) = false := by rw [beq_eq_false_iff_ne]; exact hk0
     go_wp2_with fail
     go_roundw
     case rel => exact ⟨i + 1, by omega, by go_num, HA2.out, by trivial⟩
     case measure => simp [intOf]; omega
   ·have HF : Hid (bb = false) := bb_no HBB.out (fun h => h0 (by rw [← HRR.out, HXE.out]; exact HDT.out.1 h.2.1 i hlt))
    have hbn : (rr != 0) = true := by rw [bne_iff_ne]; exact h0
    go_wp2_with fail
    go_ret
    exact ⟨by rw [HF.out]; rfl, HSX.out.below⟩
  ·have HAA : Hid (dvB l k = true ∧ (q.k = 0 → ∀ x ∈ l, x = l.getD 0 0)) := ⟨HDT.out.2 (fun j hj => (HA.out j (by omega)).1), fun h => all_first l (fun j hj => (HA.out j (by omega)).2 h)⟩
   have kk := KW.out wr HSX.out.below bb ⟨fun h => (HBB.out.1 h).1, fun h => HBB.out.2 ⟨h, HAA.out⟩⟩
   go_wp2_with fail
   refine kk.mono ?_
   rintro e w2 ⟨rfl, hw2⟩
   subst hw2
   go_wp2_with fail
   go_ret
   exact ⟨rfl, HSX.out.below⟩
def leftR (q : Sb) (m : List Int) : Option (List Int) := if q.k = 2 then fixR q.o m else lpcR q.C q.h m
theorem s_left (q : Sb) (ca : Option Addr) (cc : Nat) (pa : Option Addr) (pc : Nat) (ea : Option Addr) (ec : Nat) (m : List Int) (ma : Option Addr) (mc : Nat) (hmc : m.length ≤ mc) (R : List Int) (hR : leftR q m = some R) (w : World) (hC : IntsAt w ca q.C) (hm : IntsAt w ma m) : Calls Tryz.prog 134 #[subV q ca cc pa pc ea ec, .slice ma m.length mc] w fun e w' => ∃ la lc, e = .returned (.tuple #[.slice la R.length lc, .int .i64 0]) ∧ Made w la lc R w' := by
 have HA : Hid (SX w q ca cc pa pc ea ec (w.alloc (.cells (subC q ca cc pa pc ea ec) 27))) := SX.new w q ca cc pa pc ea ec
 by_cases k2 : q.k = 2
 ·have hbk : (q.k == 2) = true := by rw [beq_iff_eq]; exact k2
  have HK : Hid (∀ wx, Below w.heap.size w wx → Calls Tryz.prog 177 #[.int .i64 q.o, .slice ma m.length mc] wx fun e w' => ∃ la lc, e = .returned (.tuple #[.slice la R.length lc, .int .i64 0]) ∧ Made wx la lc R w') := fun wx hb => by
   have h := qfixed_spec q.o m ma mc hmc wx (hm.below hb)
   unfold leftR at hR
   rw [if_pos k2] at hR
   rw [hR] at h
   exact h
  clear hR hC hm k2
  go_enter Tryz.func134, Tryz.ntmps134
  go_upto_region 1 with fail
  generalize hwa : World.alloc _ _ = wa at *
  clear hwa
  obtain ⟨x0, x1, x2, x3, x4, x5, x6, x7, x8, x9⟩ := sub_cells HA.out.box
  go_wp2_with fail
  refine (HK.out _ HA.out.below).mono ?_
  rintro e w2 ⟨la, lc, rfl, hmd⟩
  have HM : Hid (Made w la lc R w2) := hmd.up HA.out.below
  clear hmd x0 x1 x2 x3 x4 x5 x6 x7 x8 x9
  go_wp2_with fail
  go_ret2
  exact ⟨_, _, rfl, HM.out⟩
 ·have hbk : (q.k == 2) = false := by rw [beq_eq_false_iff_ne]; exact k2
  have HK : Hid (∀ wx, Below w.heap.size w wx → Calls Tryz.prog 178 #[.slice ca q.C.length cc, .int .i64 q.h, .slice ma m.length mc] wx fun e w' => ∃ la lc, e = .returned (.tuple #[.slice la R.length lc, .int .i64 0]) ∧ Made wx la lc R w') := fun wx hb => by
   have h := qlpc_spec q.C m q.h ca ma cc mc hmc wx (hC.below hb) (hm.below hb)
   unfold leftR at hR
   rw [if_neg k2] at hR
   rw [hR] at h
   exact h
  clear hR hC hm k2
  go_enter Tryz.func134, Tryz.ntmps134
  go_upto_region 1 with fail
  generalize hwa : World.alloc _ _ = wa at *
  clear hwa
  obtain ⟨x0, x1, x2, x3, x4, x5, x6, x7, x8, x9⟩ := sub_cells HA.out.box
  go_wp2_with fail
  refine (HK.out _ HA.out.below).mono ?_
  rintro e w2 ⟨la, lc, rfl, hmd⟩
  have HM : Hid (Made w la lc R w2) := hmd.up HA.out.below
  clear hmd x0 x1 x2 x3 x4 x5 x6 x7 x8 x9
  go_wp2_with fail
  go_ret2
  exact ⟨_, _, rfl, HM.out⟩
end Go.Proofs.YthgpleelpeacjaaGreatDoor
