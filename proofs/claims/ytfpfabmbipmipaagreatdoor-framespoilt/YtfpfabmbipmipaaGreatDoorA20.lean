/- Own text. -/
import Derived.Test.YtfpfabmbipmipaaGreatDoorA19
set_option linter.unusedSimpArgs false
set_option linter.unusedVariables false
set_option maxRecDepth 20000
set_option maxHeartbeats 12800000
namespace Go.Proofs.YtfpfabmbipmipaaGreatDoor
open Go.RowKit
theorem s_div (l : List Int) (k : Nat) (hk : k <= 62) (lo : OA) (cap : Nat) (w : World) (hl : IntsAt w lo l) : Calls Tryz.prog 117 #[.slice lo l.length cap, .int .i64 (k : Int)] w fun e w' => ∃ ga gc, e = .returned (.slice ga (shrL l k).length gc) /\ Made w ga gc (shrL l k) w' := by
 have h1 := hl.len
 have HL := kQ hl
 have hmk := make_ints l.length (by omega)
 have HLL : Hid ((shrL l k).length = l.length) := shr_len l k
 have HRG : Hid (Rng (shrL l k)) := fun x hx => by
  obtain ⟨y, hy, rfl⟩ := List.mem_map.1 hx
  exact div_rng y k (hl.num y hy)
 have HAT : Hid (∀ i, (shrL l k).getD i 0 = l.getD i 0 / 2 ^ k) := fun i => getD_shr l k i
 have HM : Hid (∀ L : List Int, L.length = l.length -> Fill w w.heap.size L 0 (w.alloc (.cells (madeCells #[.int .i64 0] l.length) 3))) := fun L hLl => by
  have := Fill.made w w (Below.refl _ _) L
  rw [hLl] at this; exact this
 clear hl
 generalize shrL l k = L at *
 go_enter Tryz.func117, Tryz.ntmps117
 go_wp2_with fail
 generalize hwa : w.alloc _ = wa at *
 have HA := kQ (HM.out L HLL.out)
 clear hwa HM hmk
 go_loopw [6, 7, 13] (fun s6 s7 s13 wr => ∃ i : Nat, i <= l.length /\ s13 = .int .i64 (i : Int) /\ Fill w w.heap.size L i wr) (fun _ _ s13 _ => l.length - (intOf s13).toNat)
 case atStart => exact ⟨0, Nat.zero_le _, rfl, HA.out⟩
 case round =>
  clear HA
  obtain ⟨i, hi, rfl, hf⟩ := hrel
  have HA := kQ hf
  clear hf
  by_cases hlt : i < l.length
  ·obtain ⟨b1, o1, rfl, q1⟩ := HL.out.at i hlt
   have r1 := q1 wr HA.out.below
   have hrg := HL.out.rng i
   have hdr : -9223372036854775808 <= l.getD i 0 / 2 ^ k /\ l.getD i 0 / 2 ^ k <= 9223372036854775807 := div_rng _ k hrg
   have HNX : Hid (Fill w w.heap.size L (i + 1) (wr.setCell ⟨w.heap.size, i, none⟩ (.int .i64 (l.getD i 0 / 2 ^ k)))) := by rw [<- HAT.out i]; exact HA.out.set (by rw [HLL.out]; exact hlt)
   obtain ⟨v5, y5⟩ : ∃ v : Int, wr.cell? ⟨w.heap.size, i, none⟩ = some (.int .i64 v) := ⟨_, HA.out.cell i (by rw [HLL.out]; exact hlt)⟩
   have z5 := HA.out.frozen i
   clear q1
   generalize l.getD i 0 = x at *
   go_wp2_with fail
   go_roundw
   case rel => exact ⟨i + 1, by omega, by go_num, HNX.out⟩
   case measure => simp [intOf]; omega
  ·have hin : i = l.length := by omega
   have HI : Hid (Made w (some ⟨w.heap.size, 0, none⟩) l.length L wr) := Made.of_fill (by rw [HLL.out, <- hin]; exact HA.out) (by rw [HLL.out]; omega) (by rw [HLL.out]; omega) HRG.out
   clear HA
   go_wp2_with fail
   go_ret
   exact ⟨_, _, by rw [HLL.out]; rfl, HI.out⟩
theorem all_first (l : List Int) (h : ∀ j, j < l.length -> l.getD j 0 = l.getD 0 0) : ∀ x ∈ l, x = l.getD 0 0 := fun x hx => by
 obtain ⟨j, hj, rfl⟩ := List.getElem_of_mem hx
 have := h j hj
 rw [List.getD_eq_getElem?_getD, List.getElem?_eq_getElem hj] at this
 exact this
abbrev fitOk (q : Sb) (v : Int) (l : List Int) : Prop := (∀ x ∈ l, sigE x v = 0) /\ dvB l q.w.toNat = true /\ (q.k = 0 -> ∀ x ∈ l, x = l.getD 0 0)
theorem s_fit (q : Sb) (ca : OA) (cc : Nat) (pa : OA) (pc : Nat) (ea : OA) (ec : Nat) (k : Nat) (hk : k <= 32) (hqk : q.w = (k : Int)) (l : List Int) (lo : OA) (cap : Nat) (v : Nat) (hv : v <= 63) (bb : Bool) (hbb : bb = true ↔ fitOk q ((v : Int) + 1) l) (w : World) (hl : IntsAt w lo l) : Calls Tryz.prog 114 #[subV q ca cc pa pc ea ec, .int .i64 ((v : Int) + 1), .slice lo l.length cap] w fun e w' => e = .returned (.bool bb) /\ Lo w w' := by
 have h1 := hl.len
 have HL := kQ hl
 have HSX : Hid (SX w q ca cc pa pc ea ec (w.alloc (.cells (subC q ca cc pa pc ea ec) 67))) := SX.new w q ca cc pa pc ea ec
 have HDT : Hid (dvB l k = true ↔ ∀ j, j < l.length -> l.getD j 0 % ((2 ^ k : Nat) : Int) = 0) := dvB_at l k
 have HBB : Hid (bb = true ↔ (∀ x ∈ l, sigE x ((v : Int) + 1) = 0) /\ dvB l k = true /\ (q.k = 0 -> ∀ x ∈ l, x = l.getD 0 0)) := by
  have e : q.w.toNat = k := by omega
  show _ ↔ _
  rw [hbb]
  unfold fitOk
  rw [e]
 have KW : Hid (∀ wx, Lo w wx -> ∀ b2, (b2 = true ↔ ∀ x ∈ l, sigE x ((v : Int) + 1) = 0) -> G0 142 #[.slice lo l.length cap, .int .i64 ((v : Int) + 1)] wx (.bool b2)) := fun wx hb b2 h2 => s_within l lo cap v hv b2 h2 wx (hl.below hb)
 have HM : Hid (∀ n : Int, bits BinOp.and IntKind.i64 n ((2 ^ k - 1 : Nat) : Int) = n % ((2 ^ k : Nat) : Int)) := fun n => i64_mask n k (by omega)
 have hp1 : 1 <= 2 ^ k := Nat.one_le_two_pow
 have hp2 : 2 ^ k <= 4294967296 := Nat.le_trans (Nat.pow_le_pow_right (by decide) hk) (by decide)
 have hpw : (2 : Int) ^ k = ((2 ^ k : Nat) : Int) := by simp
 generalize hN : 2 ^ k = N at *
 have hpm : (N : Int) - 1 = ((N - 1 : Nat) : Int) := by omega
 clear hl hN hbb
 go_enter Tryz.func114, Tryz.ntmps114
 go_upto_region 1 with fail
 generalize World.alloc _ _ = wa at *
 go_wp2_with fail
 go_loopw [8, 11] (fun s8 t wr => ∃ i : Nat, i <= l.length /\ t = .int .i64 (i : Int) /\ (∀ j, j < i -> l.getD j 0 % (N : Int) = 0 /\ (q.k = 0 -> l.getD j 0 = l.getD 0 0)) /\ wr = wa) (fun _ t _ => l.length - (intOf t).toNat)
 case atStart => exact ⟨0, Nat.zero_le _, rfl, fun j hj => absurd hj (Nat.not_lt_zero _), rfl⟩
 case round =>
  obtain ⟨i, hi, rfl, hall, rfl⟩ := hrel
  have HA := kQ hall
  clear hall
  by_cases hlt : i < l.length
  focus
   obtain ⟨b1, o1, rfl, q1⟩ := HL.out.at i hlt
   have r1 := q1 wr HSX.out.below
   have r0 := (HL.out.below HSX.out.below).get 0 (by omega)
   rw [Nat.add_zero] at r0
   have hl0 : 0 < l.length := by omega
   have hb := HM.out (l.getD i 0)
   obtain ⟨x0, x1, x2, x3, x4, x5, x6, x7, x8, x9⟩ := sub_cells HSX.out.box
   rw [hqk] at x2
   clear q1
   obtain ⟨x, hx⟩ : ∃ x, x = l.getD i 0 := ⟨_, rfl⟩
   have HXE := kQ hx
   rw [<- hx] at r1 hb
   obtain ⟨y, hy⟩ : ∃ y, y = l.getD 0 0 := ⟨_, rfl⟩
   have HYE := kQ hy
   rw [<- hy] at r0
   clear hx hy
   generalize hrr : x % (N : Int) = rr at *
   have HRR := kQ hrr
   clear hrr
   by_cases h0 : rr = 0
   focus
    have hbn : (rr != 0) = false := by rw [bne_eq_false_iff_eq]; exact h0
    by_cases hk0 : q.k = 0
    focus
     by_cases hxy : x = y
     focus
      have HA2 : Hid (∀ j, j < i + 1 -> l.getD j 0 % (N : Int) = 0 /\ (q.k = 0 -> l.getD j 0 = l.getD 0 0)) := fun j hj => by
       by_cases e : j = i
       ·rw [e, <- HXE.out]; exact ⟨HRR.out.trans h0, fun _ => by rw [hxy, HYE.out]⟩
       ·exact HA.out j (by omega)
      have hb2 : (x != y) = false := by rw [bne_eq_false_iff_eq]; exact hxy
      have hb3 : (q.k == 0) = true := by rw [beq_iff_eq]; exact hk0
      clear hxy
     rotate_left
     ·have HF : Hid (bb = false) := bb_no HBB.out (fun h => hxy (by rw [HXE.out, HYE.out]; exact h.2.2 hk0 _ (getD_mem l i hlt)))
      have hb2 : (x != y) = true := by rw [bne_iff_ne]; exact hxy
      have hb3 : (q.k == 0) = true := by rw [beq_iff_eq]; exact hk0
      go_wp2_with fail
      go_ret
      exact ⟨by rw [HF.out]; rfl, HSX.out.below⟩
    rotate_left
    focus
     have HA2 : Hid (∀ j, j < i + 1 -> l.getD j 0 % (N : Int) = 0 /\ (q.k = 0 -> l.getD j 0 = l.getD 0 0)) := fun j hj => by
      by_cases e : j = i
      ·rw [e, <- HXE.out]; exact ⟨HRR.out.trans h0, fun h => absurd h hk0⟩
      ·exact HA.out j (by omega)
     have hb3 : (q.k == 0) = false := by rw [beq_eq_false_iff_ne]; exact hk0
    rotate_left
   rotate_left 2
   ·have HF : Hid (bb = false) := bb_no HBB.out (fun h => h0 (by rw [<- HRR.out, HXE.out]; exact HDT.out.1 h.2.1 i hlt))
    have hbn : (rr != 0) = true := by rw [bne_iff_ne]; exact h0
    go_wp2_with fail
    go_ret
    exact ⟨by rw [HF.out]; rfl, HSX.out.below⟩
  rotate_left 2
  ·have HAA : Hid (dvB l k = true /\ (q.k = 0 -> ∀ x ∈ l, x = l.getD 0 0)) := ⟨HDT.out.2 (fun j hj => (HA.out j (by omega)).1), fun h => all_first l (fun j hj => (HA.out j (by omega)).2 h)⟩
   have kk := KW.out wr HSX.out.below bb ⟨fun h => (HBB.out.1 h).1, fun h => HBB.out.2 ⟨h, HAA.out⟩⟩
   go_wp2_with fail
   refine kk.mono ?_
   rintro e w2 ⟨rfl, hw2⟩
   subst hw2
   go_wp2_with fail
   go_ret
   exact ⟨rfl, HSX.out.below⟩
  all_goals
   go_wp2_with fail
   go_roundw
   case rel => exact ⟨i + 1, by omega, by go_num, HA2.out, by trivial⟩
   case measure => simp [intOf]; omega
def leftR (q : Sb) (m : List Int) : Option (List Int) := if q.k = 2 then fixR q.o m else lpcR q.C q.h m
theorem s_left (q : Sb) (ca : OA) (cc : Nat) (pa : OA) (pc : Nat) (ea : OA) (ec : Nat) (m : List Int) (ma : OA) (mc : Nat) (hmc : m.length <= mc) (R : List Int) (hR : leftR q m = some R) (w : World) (hC : IntsAt w ca q.C) (hm : IntsAt w ma m) : Calls Tryz.prog 159 #[subV q ca cc pa pc ea ec, .slice ma m.length mc] w fun e w' => ∃ la lc, e = .returned (.tuple #[.slice la R.length lc, .int .i64 0]) /\ Made w la lc R w' := by
 have HA : Hid (SX w q ca cc pa pc ea ec (w.alloc (.cells (subC q ca cc pa pc ea ec) 67))) := SX.new w q ca cc pa pc ea ec
 by_cases k2 : q.k = 2
 focus
  have hbk : (q.k == 2) = true := by rw [beq_iff_eq]; exact k2
  have HK : Hid (∀ wx, Lo w wx -> Calls Tryz.prog 188 #[.int .i64 q.o, .slice ma m.length mc] wx fun e w' => ∃ la lc, e = .returned (.tuple #[.slice la R.length lc, .int .i64 0]) /\ Made wx la lc R w') := fun wx hb => by
   have h := qfixed_spec q.o m ma mc hmc wx (hm.below hb)
   unfold leftR at hR
   rw [if_pos k2] at hR
   rw [hR] at h
   exact h
 rotate_left
 focus
  have hbk : (q.k == 2) = false := by rw [beq_eq_false_iff_ne]; exact k2
  have HK : Hid (∀ wx, Lo w wx -> Calls Tryz.prog 189 #[.slice ca q.C.length cc, .int .i64 q.h, .slice ma m.length mc] wx fun e w' => ∃ la lc, e = .returned (.tuple #[.slice la R.length lc, .int .i64 0]) /\ Made wx la lc R w') := fun wx hb => by
   have h := qlpc_spec q.C m q.h ca ma cc mc hmc wx (hC.below hb) (hm.below hb)
   unfold leftR at hR
   rw [if_neg k2] at hR
   rw [hR] at h
   exact h
 rotate_left
 all_goals
  clear hR hC hm k2
  go_enter Tryz.func159, Tryz.ntmps159
  go_upto_region 1 with fail
  generalize World.alloc _ _ = wa at *
  obtain ⟨x0, x1, x2, x3, x4, x5, x6, x7, x8, x9⟩ := sub_cells HA.out.box
  go_wp2_with fail
  refine (HK.out _ HA.out.below).mono ?_
  rintro e w2 ⟨la, lc, rfl, hmd⟩
  have HM := kQ (hmd.up HA.out.below)
  clear hmd x0 x1 x2 x3 x4 x5 x6 x7 x8 x9
  go_wp2_with fail
  go_ret2
  exact ⟨_, _, rfl, HM.out⟩
theorem take_one (m : List Int) (h : 1 <= m.length) : m.take 1 = [m.getD 0 0] := by
 cases m with
 | nil => simp at h
 | cons x m => rfl
theorem nums_one (v x : Int) (h1 : ¬ v = -1) (h0 : ¬ v = 0) : numsB 0 v [x] = sigB x v := by
 unfold numsB; rw [List.flatMap_cons, List.flatMap_nil, List.append_nil, nums_flat v h1 h0]
theorem left_some (q : Sb) (m : List Int) (h : kdF q m.length ∨ kdL q m.length) : leftR q m = some (resN q m) := by
 rcases h with h | h
 ·obtain ⟨h1, h2, h3, h4, h5, h6⟩ := h
  unfold leftR resN fixR
  rw [if_pos h1, if_pos h1, if_pos (by omega)]
 ·obtain ⟨h1, h2, h3, h4, h5, h6, h7, h8, h9, h10, h11⟩ := h
  unfold leftR resN lpcR
  have hk : ¬ q.k = 2 := by omega
  rw [if_neg hk, if_neg hk, if_pos ⟨(mayB_iff _ _).2 (by omega), by omega⟩, show q.o.toNat = q.C.length by omega]
theorem res_len (q : Sb) (m : List Int) : (resN q m).length = m.length - q.o.toNat := by
 unfold resN; split <;> exact leftN_len _ _ _ _
theorem apart_made {wx w' : World} {la : OA} {lc p : Nat} {R : List Int} {aj : OA} {B : List Nat} (h : Made wx la lc R w') (hw : WrB wx p aj B) : Apart p aj la R := fun h0 b hb hf => by
 obtain ⟨g, rfl, h1, _⟩ := h.at_
 have e : g = b := by simpa [blockOf] using hb
 rcases hf with hf | hf
 ·have := hw.lt; omega
 ·have := hw.blocks b hf; omega
theorem grp3 : (∀ (q : Sb) (ca : OA) (cc : Nat) (pa : OA) (pc : Nat) (ea : OA) (ec : Nat) (k0 : q.k = 0) (v : Int) (m : List Int) (g mc : Nat) (hmc : m.length <= mc) (p : Nat) (ao : OA) (B : List Nat) (h01 : Bits01 B) (hB : B.length <= 100000000) (w : World) (hok : subOk q m.length v) (hq : SbAt w q ca pa ea) (hm : IntsAt w (some ⟨g, 0, none⟩) m) (hw : WrB w p ao B) (aC : Apart p ao ca q.C) (aP : Apart p ao pa q.R.P) (aE : Apart p ao ea q.R.E) (am : Apart p ao (some ⟨g, 0, none⟩) m) (bb : Bool) (hbb : bb = true ↔ (q.k = 2 ∨ q.k = 3 -> encR q.R m.length q.o (resN q m) = true)), Calls Tryz.prog 116 #[.pointer (some ⟨p, 0, none⟩), subV q ca cc pa pc ea ec, .int .i64 (v - q.w), .slice (some ⟨g, 0, none⟩) m.length mc] w fun e w' => e = .returned (.bool bb) /\ ∃ ao', (bb = true -> WrB w' p ao' (B ++ bodyB q v m)) /\ Stays (foot p ao) w w' /\ Moved w.heap.size ao ao') /\ (∀ (q : Sb) (ca : OA) (cc : Nat) (pa : OA) (pc : Nat) (ea : OA) (ec : Nat) (k1 : q.k = 1) (v : Int) (m : List Int) (g mc : Nat) (hmc : m.length <= mc) (p : Nat) (ao : OA) (B : List Nat) (h01 : Bits01 B) (hB : B.length <= 100000000) (w : World) (hok : subOk q m.length v) (hq : SbAt w q ca pa ea) (hm : IntsAt w (some ⟨g, 0, none⟩) m) (hw : WrB w p ao B) (aC : Apart p ao ca q.C) (aP : Apart p ao pa q.R.P) (aE : Apart p ao ea q.R.E) (am : Apart p ao (some ⟨g, 0, none⟩) m) (bb : Bool) (hbb : bb = true ↔ (q.k = 2 ∨ q.k = 3 -> encR q.R m.length q.o (resN q m) = true)), Calls Tryz.prog 116 #[.pointer (some ⟨p, 0, none⟩), subV q ca cc pa pc ea ec, .int .i64 (v - q.w), .slice (some ⟨g, 0, none⟩) m.length mc] w fun e w' => e = .returned (.bool bb) /\ ∃ ao', (bb = true -> WrB w' p ao' (B ++ bodyB q v m)) /\ Stays (foot p ao) w w' /\ Moved w.heap.size ao ao') /\ (∀ (q : Sb) (ca : OA) (cc : Nat) (pa : OA) (pc : Nat) (ea : OA) (ec : Nat) (k2 : q.k = 2) (v : Int) (m : List Int) (g mc : Nat) (hmc : m.length <= mc) (p : Nat) (ao : OA) (B : List Nat) (h01 : Bits01 B) (hB : B.length <= 100000000) (w : World) (hok : subOk q m.length v) (hq : SbAt w q ca pa ea) (hm : IntsAt w (some ⟨g, 0, none⟩) m) (hw : WrB w p ao B) (aC : Apart p ao ca q.C) (aP : Apart p ao pa q.R.P) (aE : Apart p ao ea q.R.E) (am : Apart p ao (some ⟨g, 0, none⟩) m) (bb : Bool) (hbb : bb = true ↔ (q.k = 2 ∨ q.k = 3 -> encR q.R m.length q.o (resN q m) = true)), Calls Tryz.prog 116 #[.pointer (some ⟨p, 0, none⟩), subV q ca cc pa pc ea ec, .int .i64 (v - q.w), .slice (some ⟨g, 0, none⟩) m.length mc] w fun e w' => e = .returned (.bool bb) /\ ∃ ao', (bb = true -> WrB w' p ao' (B ++ bodyB q v m)) /\ Stays (foot p ao) w w' /\ Moved w.heap.size ao ao') /\ (∀ (q : Sb) (ca : OA) (cc : Nat) (pa : OA) (pc : Nat) (ea : OA) (ec : Nat) (k3 : q.k = 3) (v : Int) (m : List Int) (g mc : Nat) (hmc : m.length <= mc) (p : Nat) (ao : OA) (B : List Nat) (h01 : Bits01 B) (hB : B.length <= 100000000) (w : World) (hok : subOk q m.length v) (hq : SbAt w q ca pa ea) (hm : IntsAt w (some ⟨g, 0, none⟩) m) (hw : WrB w p ao B) (aC : Apart p ao ca q.C) (aP : Apart p ao pa q.R.P) (aE : Apart p ao ea q.R.E) (am : Apart p ao (some ⟨g, 0, none⟩) m) (bb : Bool) (hbb : bb = true ↔ (q.k = 2 ∨ q.k = 3 -> encR q.R m.length q.o (resN q m) = true)), Calls Tryz.prog 116 #[.pointer (some ⟨p, 0, none⟩), subV q ca cc pa pc ea ec, .int .i64 (v - q.w), .slice (some ⟨g, 0, none⟩) m.length mc] w fun e w' => e = .returned (.bool bb) /\ ∃ ao', (bb = true -> WrB w' p ao' (B ++ bodyB q v m)) /\ Stays (foot p ao) w w' /\ Moved w.heap.size ao ao') := by
 refine ⟨?_, ?_, ?_, ?_⟩
 focus
  intro q ca cc pa pc ea ec k0 v m g mc hmc p ao B h01 hB w hok hq hm hw aC aP aE am bb hbb
  have hml := hm.len
  have nlen : ∀ n, n <= m.length -> (numsB 0 (v - q.w) (m.take n)).length <= 17000000 * n := fun n hn => by
   have := numsB_len 0 (v - q.w) (m.take n)
   rw [List.length_take, Nat.min_eq_left hn] at this
   exact this
  have H0 : Hid (WB w p ao ao B (w.heap.size + 1) (w.alloc (.cells (subC q ca cc pa pc ea ec) 67))) := WB.start hw aQ _ (by simp)
  have X0 : Hid ((w.alloc (.cells (subC q ca cc pa pc ea ec) 67)).heap[w.heap.size]? = some (.cells (subC q ca cc pa pc ea ec) 67 (0, 0))) := heap_alloc_new _ _
  obtain ⟨B0, rfl⟩ : ∃ X, X = B := ⟨_, rfl⟩
  have o0 := h01
  have HBB := kQ hbb
  obtain ⟨hb, hv, hwd, hkd⟩ := hok
  clear hw h01 hbb
  have HBT : Hid (bb = true) := bb_yes HBB.out (fun h => by omega)
  have HBY : Hid (bodyB q v m = numsB 0 (v - q.w) (m.take (1))) := by show _ = _; unfold bodyB; rw [if_pos k0, take_one m (by omega), nums_one _ _ (by omega) (by omega)]
  obtain ⟨nn, hnn⟩ : ∃ X : Nat, X = 1 := ⟨_, rfl⟩
  have hcn : cntN q (m.length : Int) = (nn : Int) := by unfold cntN; rw [if_pos k0]; omega
 rotate_left
 focus
  intro q ca cc pa pc ea ec k1 v m g mc hmc p ao B h01 hB w hok hq hm hw aC aP aE am bb hbb
  have hml := hm.len
  have nlen : ∀ n, n <= m.length -> (numsB 0 (v - q.w) (m.take n)).length <= 17000000 * n := fun n hn => by
   have := numsB_len 0 (v - q.w) (m.take n)
   rw [List.length_take, Nat.min_eq_left hn] at this
   exact this
  have H0 : Hid (WB w p ao ao B (w.heap.size + 1) (w.alloc (.cells (subC q ca cc pa pc ea ec) 67))) := WB.start hw aQ _ (by simp)
  have X0 : Hid ((w.alloc (.cells (subC q ca cc pa pc ea ec) 67)).heap[w.heap.size]? = some (.cells (subC q ca cc pa pc ea ec) 67 (0, 0))) := heap_alloc_new _ _
  obtain ⟨B0, rfl⟩ : ∃ X, X = B := ⟨_, rfl⟩
  have o0 := h01
  have HBB := kQ hbb
  obtain ⟨hb, hv, hwd, hkd⟩ := hok
  clear hw h01 hbb
  have HBT : Hid (bb = true) := bb_yes HBB.out (fun h => by omega)
  have HBY : Hid (bodyB q v m = numsB 0 (v - q.w) (m.take (m.length))) := by show _ = _; unfold bodyB; rw [if_neg (by omega), if_pos k1, List.take_length]
  obtain ⟨nn, hnn⟩ : ∃ X : Nat, X = m.length := ⟨_, rfl⟩
  have hcn : cntN q (m.length : Int) = (nn : Int) := by unfold cntN; rw [if_neg (by omega), if_pos k1]; omega
 rotate_left
 focus
  intro q ca cc pa pc ea ec k2 v m g mc hmc p ao B h01 hB w hok hq hm hw aC aP aE am bb hbb
  have hml := hm.len
  have nlen : ∀ n, n <= m.length -> (numsB 0 (v - q.w) (m.take n)).length <= 17000000 * n := fun n hn => by
   have := numsB_len 0 (v - q.w) (m.take n)
   rw [List.length_take, Nat.min_eq_left hn] at this
   exact this
  have H0 : Hid (WB w p ao ao B (w.heap.size + 1) (w.alloc (.cells (subC q ca cc pa pc ea ec) 67))) := WB.start hw aQ _ (by simp)
  have X0 : Hid ((w.alloc (.cells (subC q ca cc pa pc ea ec) 67)).heap[w.heap.size]? = some (.cells (subC q ca cc pa pc ea ec) 67 (0, 0))) := heap_alloc_new _ _
  obtain ⟨B0, rfl⟩ : ∃ X, X = B := ⟨_, rfl⟩
  have o0 := h01
  have HBB := kQ hbb
  obtain ⟨hb, hv, hwd, hkd⟩ := hok
  clear hw h01 hbb
  have hF : kdF q m.length := by
   rcases hkd with h | h | h
   ·have := h.1; omega
   ·exact h
   ·have := h.1; omega
  have hF2 := hF.2.2
  have HLF : Hid (∀ wx a, a = subV q ca cc pa pc ea ec -> ∀ aj Bj K, WB w p ao aj Bj K wx -> Calls Tryz.prog 159 #[a, .slice (some ⟨g, 0, none⟩) m.length mc] wx fun e w' => ∃ la lc, e = .returned (.tuple #[.slice la (resN q m).length lc, .int .i64 0]) /\ Made wx la lc (resN q m) w') := fun wx a ha aj Bj K hh => by
   rw [ha]; exact s_left q ca cc pa pc ea ec m (some ⟨g, 0, none⟩) mc hmc (resN q m) (left_some q m (.inl hF)) wx (hh.ints hq.C aC) (hh.ints hm am)
  have HRC : Hid (∀ wx aj Bj K, WB w p ao aj Bj K wx -> RcAt wx q.R pa ea) := fun wx aj Bj K hh => ⟨hh.ints hq.R.P aP, hh.ints hq.R.E aE, hq.R.m1, hq.R.m2, hq.R.o1, hq.R.o2⟩
  have HAP : Hid (∀ aj, Moved w.heap.size ao aj -> Apart p aj pa q.R.P /\ Apart p aj ea q.R.E) := fun aj hh => ⟨aP.moved hq.R.P hh, aE.moved hq.R.E hh⟩
  have HRS : Hid (ShX (resN q m)) := ⟨trivial, by rw [res_len]; omega⟩
  have HBY : Hid (bodyB q v m = numsB 0 (v - q.w) (m.take q.o.toNat) ++ encB q.R m.length q.o.toNat (resN q m)) := by show _ = _; unfold bodyB; rw [if_neg (by omega), if_neg (by omega), if_pos k2]
  obtain ⟨nn, hnn⟩ : ∃ X : Nat, X = q.o.toNat := ⟨_, rfl⟩
  have hcn : cntN q (m.length : Int) = (nn : Int) := by unfold cntN; rw [if_neg (by omega), if_neg (by omega)]; omega
 rotate_left
 focus
  intro q ca cc pa pc ea ec k3 v m g mc hmc p ao B h01 hB w hok hq hm hw aC aP aE am bb hbb
  have hml := hm.len
  have nlen : ∀ n, n <= m.length -> (numsB 0 (v - q.w) (m.take n)).length <= 17000000 * n := fun n hn => by
   have := numsB_len 0 (v - q.w) (m.take n)
   rw [List.length_take, Nat.min_eq_left hn] at this
   exact this
  have H0 : Hid (WB w p ao ao B (w.heap.size + 1) (w.alloc (.cells (subC q ca cc pa pc ea ec) 67))) := WB.start hw aQ _ (by simp)
  have X0 : Hid ((w.alloc (.cells (subC q ca cc pa pc ea ec) 67)).heap[w.heap.size]? = some (.cells (subC q ca cc pa pc ea ec) 67 (0, 0))) := heap_alloc_new _ _
  obtain ⟨B0, rfl⟩ : ∃ X, X = B := ⟨_, rfl⟩
  have o0 := h01
  have HBB := kQ hbb
  obtain ⟨hb, hv, hwd, hkd⟩ := hok
  clear hw h01 hbb
  have hL : kdL q m.length := by
   rcases hkd with h | h | h
   ·have := h.1; omega
   ·have := h.1; omega
   ·exact h
  have hL2 := hL
  obtain ⟨_, g2, g3, g4, g5, g6, g7, g8, g9, g10, g11⟩ := hL
  have HLF : Hid (∀ wx a, a = subV q ca cc pa pc ea ec -> ∀ aj Bj K, WB w p ao aj Bj K wx -> Calls Tryz.prog 159 #[a, .slice (some ⟨g, 0, none⟩) m.length mc] wx fun e w' => ∃ la lc, e = .returned (.tuple #[.slice la (resN q m).length lc, .int .i64 0]) /\ Made wx la lc (resN q m) w') := fun wx a ha aj Bj K hh => by
   rw [ha]; exact s_left q ca cc pa pc ea ec m (some ⟨g, 0, none⟩) mc hmc (resN q m) (left_some q m (.inr hL2)) wx (hh.ints hq.C aC) (hh.ints hm am)
  have HRC : Hid (∀ wx aj Bj K, WB w p ao aj Bj K wx -> RcAt wx q.R pa ea) := fun wx aj Bj K hh => ⟨hh.ints hq.R.P aP, hh.ints hq.R.E aE, hq.R.m1, hq.R.m2, hq.R.o1, hq.R.o2⟩
  have HAP : Hid (∀ aj, Moved w.heap.size ao aj -> Apart p aj pa q.R.P /\ Apart p aj ea q.R.E) := fun aj hh => ⟨aP.moved hq.R.P hh, aE.moved hq.R.E hh⟩
  have HRS : Hid (ShX (resN q m)) := ⟨trivial, by rw [res_len]; omega⟩
  have HBY : Hid (bodyB q v m = numsB 0 (v - q.w) (m.take q.o.toNat) ++ (putB (q.p - 1) 4 ++ (putB q.h 5 ++ (numsB 0 q.p q.C ++ encB q.R m.length q.o.toNat (resN q m))))) := by show _ = _; unfold bodyB; rw [if_neg (by omega), if_neg (by omega), if_neg (by omega)]
  have KC : Hid (∀ wx aj Bj, Bits01 Bj -> Bj.length <= 1000000000 -> WB w p ao aj Bj (w.heap.size + 1) wx -> Calls Tryz.prog 157 #[.pointer (some ⟨p, 0, none⟩), .slice ca q.C.length cc, .int .i64 q.p] wx fun en w' => en = .returned (.tuple #[]) /\ ∃ ao', WrB w' p ao' (Bj ++ numsB 0 q.p q.C) /\ Stays (foot p aj) wx w' /\ Moved wx.heap.size aj ao') := fun wx aj Bj hj hl hh => s_each q.C q.p (by omega) ca cc p aj Bj hj (by omega) wx (hh.ints hq.C aC) hh.wr (aC.moved hq.C hh.mv)
  have clen : (numsB 0 q.p q.C).length <= 17000000 * 32 := by
   have := numsB_len 0 q.p q.C
   omega
  obtain ⟨nn, hnn⟩ : ∃ X : Nat, X = q.o.toNat := ⟨_, rfl⟩
  have hn32 : nn <= 32 := by omega
  have hcn : cntN q (m.length : Int) = (nn : Int) := by unfold cntN; rw [if_neg (by omega), if_neg (by omega)]; omega
 rotate_left
 all_goals
  have HAS : Hid (∀ wx a, a = subV q ca cc pa pc ea ec -> G1 158 #[a, .int .i64 (m.length : Int)] wx (.int .i64 ((nn : Nat) : Int))) := fun wx a ha => by
   rw [ha, <- hcn]; exact s_asThey q ca cc pa pc ea ec m.length wx
  have hn : nn <= m.length := by omega
  have hXl : (m.take (nn)).length = nn := by rw [List.length_take]; omega
  have KE : Hid (∀ wx, WB w p ao ao B0 (w.heap.size + 1) wx -> Calls Tryz.prog 157 #[.pointer (some ⟨p, 0, none⟩), .slice (some ⟨g, 0, none⟩) (nn) mc, .int .i64 (v - q.w)] wx fun en w' => en = .returned (.tuple #[]) /\ ∃ ao', WrB w' p ao' (B0 ++ numsB 0 (v - q.w) (m.take (nn))) /\ Stays (foot p ao) wx w' /\ Moved wx.heap.size ao ao') := fun wx hh => by
   have hpt := (hh.ints hm am).part 0 (nn) (by omega) (some ⟨g, 0, none⟩) (fun b off e _ => by cases e; rfl)
   rw [List.drop_zero] at hpt
   have hap : Apart p ao (some ⟨g, 0, none⟩) (m.take (nn)) := am.part (fun b hb => hb) (fun h => by rw [hXl] at h; omega)
   have := s_each (m.take (nn)) (v - q.w) (by omega) (some ⟨g, 0, none⟩) mc p ao B0 o0 (by rw [hXl]; omega) wx hpt hh.wr hap
   rw [hXl] at this
   exact this
 focus
  have hk0 : (q.k == 0) = true := eQt (by omega)
  have hk1 : (q.k == 1) = false := eQf (by omega)
  have hk2 : (q.k == 2) = false := eQf (by omega)
  have hk3 : (q.k == 3) = false := eQf (by omega)
  clear hm hq am aC aP aE hkd
  have HNN := kQ hnn
  have hnc : (nn : Int) <= (mc : Int) := by omega
  have hnl : (nn : Int) <= (m.length : Int) := by omega
  have hn0 : (0 : Int) <= (nn : Int) := by omega
  clear hnn hXl hcn
  go_enter Tryz.func116, Tryz.ntmps116
  go_upto_region 1 with fail
  generalize World.alloc _ _ = wa at *
  obtain ⟨x0, x1, x2, x3, x4, x5, x6, x7, x8, x9⟩ := sub_cells X0.out
  go_wp2_with fail
  refine (HAS.out _ _ (by simp [k0])).mono ?_
 rotate_left
 focus
  have hk0 : (q.k == 0) = false := eQf (by omega)
  have hk1 : (q.k == 1) = true := eQt (by omega)
  have hk2 : (q.k == 2) = false := eQf (by omega)
  have hk3 : (q.k == 3) = false := eQf (by omega)
  clear hm hq am aC aP aE hkd
  have HNN := kQ hnn
  have hnc : (nn : Int) <= (mc : Int) := by omega
  have hnl : (nn : Int) <= (m.length : Int) := by omega
  have hn0 : (0 : Int) <= (nn : Int) := by omega
  clear hnn hXl hcn
  go_enter Tryz.func116, Tryz.ntmps116
  go_upto_region 1 with fail
  generalize World.alloc _ _ = wa at *
  obtain ⟨x0, x1, x2, x3, x4, x5, x6, x7, x8, x9⟩ := sub_cells X0.out
  go_wp2_with fail
  refine (HAS.out _ _ (by simp [k1])).mono ?_
 rotate_left
 focus
  have hk0 : (q.k == 0) = false := eQf (by omega)
  have hk1 : (q.k == 1) = false := eQf (by omega)
  have hk2 : (q.k == 2) = true := eQt (by omega)
  have hk3 : (q.k == 3) = false := eQf (by omega)
  clear hm hq am aC aP aE hkd
  have hoo : 0 <= q.o /\ q.o <= 4 := by omega
  clear hF hF2
  generalize resN q m = R at *
  have HNN := kQ hnn
  have hnc : (nn : Int) <= (mc : Int) := by omega
  have hnl : (nn : Int) <= (m.length : Int) := by omega
  have hn0 : (0 : Int) <= (nn : Int) := by omega
  clear hnn hXl hcn
  go_enter Tryz.func116, Tryz.ntmps116
  go_upto_region 1 with fail
  generalize World.alloc _ _ = wa at *
  obtain ⟨x0, x1, x2, x3, x4, x5, x6, x7, x8, x9⟩ := sub_cells X0.out
  go_wp2_with fail
  refine (HAS.out _ _ (by simp [k2])).mono ?_
 rotate_left
 focus
  have hk0 : (q.k == 0) = false := eQf (by omega)
  have hk1 : (q.k == 1) = false := eQf (by omega)
  have hk2 : (q.k == 2) = false := eQf (by omega)
  have hk3 : (q.k == 3) = true := eQt (by omega)
  clear hm hq am aC aP aE hkd
  clear g9 g10 g11 hL2
  generalize resN q m = R at *
  have HNN := kQ hnn
  have hnc : (nn : Int) <= (mc : Int) := by omega
  have hnl : (nn : Int) <= (m.length : Int) := by omega
  have hn0 : (0 : Int) <= (nn : Int) := by omega
  clear hnn hXl hcn
  go_enter Tryz.func116, Tryz.ntmps116
  go_upto_region 1 with fail
  generalize World.alloc _ _ = wa at *
  obtain ⟨x0, x1, x2, x3, x4, x5, x6, x7, x8, x9⟩ := sub_cells X0.out
  go_wp2_with fail
  refine (HAS.out _ _ (by simp [k3])).mono ?_
 rotate_left
 all_goals
  rintro e w1 ⟨rfl, hb1⟩
  have H0' : Hid (WB w p ao ao B0 (w.heap.size + 1) w1) := H0.out.low hb1
  have X0' : Hid (w1.heap[w.heap.size]? = some (.cells (subC q ca cc pa pc ea ec) 67 (0, 0))) := by show _ = _; rw [hb1.block _ (lt_of_block X0.out)]; exact X0.out
  have ke := KE.out w1 H0'.out
  clear hb1 H0 X0 HAS KE x0 x1 x2 x3 x4 x5 x6 x7 x8 x9
  go_wp2_with fail
  refine (ke).mono ?_
  rintro e w2 ⟨rfl, ao1, hw_, hs_, hv_⟩
  obtain ⟨B1, e1, o1, l1⟩ : ∃ X, X = B0 ++ numsB 0 (v - q.w) (m.take nn) /\ Bits01 X /\ X.length <= B0.length + 17000000 * nn := ⟨_, rfl, o0.append (numsB_01 _ _ _), by rw [List.length_append]; have := nlen nn hn; omega⟩
  rw [<- e1] at hw_
  have H1 : Hid (WB w p ao ao1 B1 (w.heap.size + 1) w2) := H0'.out.put hw_ hs_ hv_
  have X1 : Hid (w2.heap[w.heap.size]? = some (.cells (subC q ca cc pa pc ea ec) 67 (0, 0))) := by show _ = _; rw [H0'.out.box hs_ _ (Nat.le_refl _) (by omega)]; exact X0'.out
  have E1 := kQ e1
  clear hw_ hs_ hv_ e1
  clear ke H0' X0'
  obtain ⟨x0, x1, x2, x3, x4, x5, x6, x7, x8, x9⟩ := sub_cells X1.out
  go_wp2_with fail
 rotate_left 2
 ·refine (HLF.out _ _ (by simp [k2]) _ _ _ H1.out).mono ?_
  rintro e w8 ⟨la, lc, rfl, hmd⟩
  have H8 := kQ (H1.out.low hmd.below)
  have X8 : Hid (w8.heap[w.heap.size]? = some (.cells (subC q ca cc pa pc ea ec) 67 (0, 0))) := by show _ = _; rw [hmd.below.block _ (lt_of_block X1.out)]; exact X1.out
  have ke := encode_all q.R R HRS.out pa pc ea ec la lc hmd.cap_ hmd.none_ p ao1 B1 o1 (by omega) w8 (HRC.out _ _ _ _ H8.out) hmd.ints H8.out.wr (HAP.out _ H8.out.mv).1 (HAP.out _ H8.out.mv).2 (apart_made hmd H1.out.wr) (m.length : Int) q.o
  clear hmd H1 X1 HLF x0 x1 x2 x3 x4 x5 x6 x7 x8 x9
  obtain ⟨x0, x1, x2, x3, x4, x5, x6, x7, x8, x9⟩ := sub_cells X8.out
  by_cases hE : encR q.R (m.length : Int) q.o R = true
  focus
   have e1 : encN q.R (m.length : Int) q.o R = 0 := by unfold encN; rw [hE]; rfl
   have e2 : encL q.R (m.length : Int) q.o R = encB q.R m.length q.o.toNat R := by unfold encL; rw [hE, Int.toNat_natCast]; rfl
   have HBT : Hid (bb = true) := bb_yes HBB.out (fun _ => hE)
   rw [e1, e2] at ke
   clear e1 e2 hE
   generalize encB q.R m.length q.o.toNat R = EB at *
  rotate_left
  focus
   have e1 : encN q.R (m.length : Int) q.o R = 60 := by unfold encN; rw [if_neg hE]
   have HBT : Hid (bb = false) := bb_no HBB.out (fun h => hE (h (by omega)))
   rw [e1] at ke
   clear e1 hE
  rotate_left
  all_goals
   go_wp2_with fail
   refine ke.mono ?_
   rintro e w9 ⟨rfl, ao9, hw9, hs9, hv9⟩
   have H9 := kQ (H8.out.put hw9 hs9 hv9)
   clear ke hw9 hs9 hv9 H8 X8 x0 x1 x2 x3 x4 x5 x6 x7 x8 x9
   go_wp2_with fail
   go_ret
  ·exact ⟨by rw [HBT.out]; rfl, ao9, fun _ => by rw [HBY.out]; exact by rw [<- HNN.out, <- List.append_assoc, <- E1.out]; exact H9.out.wr, H9.out.st, H9.out.mv⟩
  ·exact ⟨by rw [HBT.out]; rfl, ao9, (fun h => by rw [HBT.out] at h; cases h), H9.out.st, H9.out.mv⟩
 ·refine (wput_all w2 ao1 B1 p (q.p - 1) 4 (by omega) (by omega) o1 (by omega) H1.out.wr).mono ?_
  rintro e w3 ⟨rfl, ao2, hw_, hs_, hv_⟩
  obtain ⟨B2, e2, o2, l2⟩ : ∃ X, X = B1 ++ putB (q.p - 1) 4 /\ Bits01 X /\ X.length <= B1.length + 17000000 := ⟨_, rfl, o1.append (putB_01 _ _), by rw [List.length_append]; have := putB_len (q.p - 1) 4; omega⟩
  rw [<- e2] at hw_
  have H2 := kQ (H1.out.put hw_ hs_ hv_)
  have X2 : Hid (w3.heap[w.heap.size]? = some (.cells (subC q ca cc pa pc ea ec) 67 (0, 0))) := by show _ = _; rw [H1.out.box hs_ _ (Nat.le_refl _) (by omega)]; exact X1.out
  have E2 := kQ e2
  clear hw_ hs_ hv_ e2
  clear H1 X1 x0 x1 x2 x3 x4 x5 x6 x7 x8 x9
  obtain ⟨x0, x1, x2, x3, x4, x5, x6, x7, x8, x9⟩ := sub_cells X2.out
  go_wp2_with fail
  refine (wput_all w3 ao2 B2 p q.h 5 (by omega) (by omega) o2 (by omega) H2.out.wr).mono ?_
  rintro e w4 ⟨rfl, ao3, hw_, hs_, hv_⟩
  obtain ⟨B3, e3, o3, l3⟩ : ∃ X, X = B2 ++ putB q.h 5 /\ Bits01 X /\ X.length <= B2.length + 17000000 := ⟨_, rfl, o2.append (putB_01 _ _), by rw [List.length_append]; have := putB_len q.h 5; omega⟩
  rw [<- e3] at hw_
  have H3 := kQ (H2.out.put hw_ hs_ hv_)
  have X3 : Hid (w4.heap[w.heap.size]? = some (.cells (subC q ca cc pa pc ea ec) 67 (0, 0))) := by show _ = _; rw [H2.out.box hs_ _ (Nat.le_refl _) (by omega)]; exact X2.out
  have E3 := kQ e3
  clear hw_ hs_ hv_ e3
  clear H2 X2 x0 x1 x2 x3 x4 x5 x6 x7 x8 x9
  obtain ⟨x0, x1, x2, x3, x4, x5, x6, x7, x8, x9⟩ := sub_cells X3.out
  have kc := KC.out w4 ao3 B3 o3 (by omega) H3.out
  clear KC
  go_wp2_with fail
  refine (kc).mono ?_
  rintro e w5 ⟨rfl, ao4, hw_, hs_, hv_⟩
  obtain ⟨B4, e4, o4, l4⟩ : ∃ X, X = B3 ++ numsB 0 q.p q.C /\ Bits01 X /\ X.length <= B3.length + 17000000 * 32 := ⟨_, rfl, o3.append (numsB_01 _ _ _), by rw [List.length_append]; have := clen; omega⟩
  rw [<- e4] at hw_
  have H4 := kQ (H3.out.put hw_ hs_ hv_)
  have X4 : Hid (w5.heap[w.heap.size]? = some (.cells (subC q ca cc pa pc ea ec) 67 (0, 0))) := by show _ = _; rw [H3.out.box hs_ _ (Nat.le_refl _) (by omega)]; exact X3.out
  have E4 := kQ e4
  clear hw_ hs_ hv_ e4
  clear kc H3 X3 x0 x1 x2 x3 x4 x5 x6 x7 x8 x9
  obtain ⟨x0, x1, x2, x3, x4, x5, x6, x7, x8, x9⟩ := sub_cells X4.out
  go_wp2_with fail
  refine (HLF.out _ _ (by simp [k3]) _ _ _ H4.out).mono ?_
  rintro e w8 ⟨la, lc, rfl, hmd⟩
  have H8 := kQ (H4.out.low hmd.below)
  have X8 : Hid (w8.heap[w.heap.size]? = some (.cells (subC q ca cc pa pc ea ec) 67 (0, 0))) := by show _ = _; rw [hmd.below.block _ (lt_of_block X4.out)]; exact X4.out
  have ke := encode_all q.R R HRS.out pa pc ea ec la lc hmd.cap_ hmd.none_ p ao4 B4 o4 (by omega) w8 (HRC.out _ _ _ _ H8.out) hmd.ints H8.out.wr (HAP.out _ H8.out.mv).1 (HAP.out _ H8.out.mv).2 (apart_made hmd H4.out.wr) (m.length : Int) q.o
  clear hmd H4 X4 HLF x0 x1 x2 x3 x4 x5 x6 x7 x8 x9
  obtain ⟨x0, x1, x2, x3, x4, x5, x6, x7, x8, x9⟩ := sub_cells X8.out
  by_cases hE : encR q.R (m.length : Int) q.o R = true
  focus
   have e1 : encN q.R (m.length : Int) q.o R = 0 := by unfold encN; rw [hE]; rfl
   have e2 : encL q.R (m.length : Int) q.o R = encB q.R m.length q.o.toNat R := by unfold encL; rw [hE, Int.toNat_natCast]; rfl
   have HBT : Hid (bb = true) := bb_yes HBB.out (fun _ => hE)
   rw [e1, e2] at ke
   clear e1 e2 hE
   generalize encB q.R m.length q.o.toNat R = EB at *
  rotate_left
  focus
   have e1 : encN q.R (m.length : Int) q.o R = 60 := by unfold encN; rw [if_neg hE]
   have HBT : Hid (bb = false) := bb_no HBB.out (fun h => hE (h (by omega)))
   rw [e1] at ke
   clear e1 hE
  rotate_left
  all_goals
   go_wp2_with fail
   refine ke.mono ?_
   rintro e w9 ⟨rfl, ao9, hw9, hs9, hv9⟩
   have H9 := kQ (H8.out.put hw9 hs9 hv9)
   clear ke hw9 hs9 hv9 H8 X8 x0 x1 x2 x3 x4 x5 x6 x7 x8 x9
   go_wp2_with fail
   go_ret
  ·exact ⟨by rw [HBT.out]; rfl, ao9, fun _ => by rw [HBY.out]; exact by rw [<- HNN.out, <- List.append_assoc, <- E1.out, <- List.append_assoc, <- E2.out, <- List.append_assoc, <- E3.out, <- List.append_assoc, <- E4.out]; exact H9.out.wr, H9.out.st, H9.out.mv⟩
  ·exact ⟨by rw [HBT.out]; rfl, ao9, (fun h => by rw [HBT.out] at h; cases h), H9.out.st, H9.out.mv⟩
 all_goals
  go_ret
  exact ⟨by rw [HBT.out]; rfl, ao1, fun _ => by rw [HBY.out, <- HNN.out, <- E1.out]; exact H1.out.wr, H1.out.st, H1.out.mv⟩
theorem s_body (q : Sb) (ca : OA) (cc : Nat) (pa : OA) (pc : Nat) (ea : OA) (ec : Nat) (v : Int) (m : List Int) (g mc : Nat) (hmc : m.length <= mc) (p : Nat) (ao : OA) (B : List Nat) (h01 : Bits01 B) (hB : B.length <= 100000000) (w : World) (hok : subOk q m.length v) (hq : SbAt w q ca pa ea) (hm : IntsAt w (some ⟨g, 0, none⟩) m) (hw : WrB w p ao B) (aC : Apart p ao ca q.C) (aP : Apart p ao pa q.R.P) (aE : Apart p ao ea q.R.E) (am : Apart p ao (some ⟨g, 0, none⟩) m) (bb : Bool) (hbb : bb = true ↔ (q.k = 2 ∨ q.k = 3 -> encR q.R m.length q.o (resN q m) = true)) : Calls Tryz.prog 116 #[.pointer (some ⟨p, 0, none⟩), subV q ca cc pa pc ea ec, .int .i64 (v - q.w), .slice (some ⟨g, 0, none⟩) m.length mc] w fun e w' => e = .returned (.bool bb) /\ ∃ ao', (bb = true -> WrB w' p ao' (B ++ bodyB q v m)) /\ Stays (foot p ao) w w' /\ Moved w.heap.size ao ao' := by
 have hk := hok.2.2.2
 by_cases k0 : q.k = 0
 ·exact grp3.1 q ca cc pa pc ea ec k0 v m g mc hmc p ao B h01 hB w hok hq hm hw aC aP aE am bb hbb
 by_cases k1 : q.k = 1
 ·exact grp3.2.1 q ca cc pa pc ea ec k1 v m g mc hmc p ao B h01 hB w hok hq hm hw aC aP aE am bb hbb
 by_cases k2 : q.k = 2
 ·exact grp3.2.2.1 q ca cc pa pc ea ec k2 v m g mc hmc p ao B h01 hB w hok hq hm hw aC aP aE am bb hbb
 ·have k3 : q.k = 3 := by
   rcases hk with h | h | h
   ·have := h.1; omega
   ·have := h.1; omega
   ·exact h.1
  exact grp3.2.2.2 q ca cc pa pc ea ec k3 v m g mc hmc p ao B h01 hB w hok hq hm hw aC aP aE am bb hbb
end Go.Proofs.YtfpfabmbipmipaaGreatDoor
