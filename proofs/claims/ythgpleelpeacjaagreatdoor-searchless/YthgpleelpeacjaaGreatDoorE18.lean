/- Own text. -/
import Derived.Test.YthgpleelpeacjaaGreatDoorE17
set_option linter.unusedSimpArgs false
set_option linter.unusedVariables false
set_option maxRecDepth 20000
set_option maxHeartbeats 12800000
namespace Go.Proofs.YthgpleelpeacjaaGreatDoor
open Go.RowKit
theorem take_one (m : List Int) (h : 1 ≤ m.length) : m.take 1 = [m.getD 0 0] := by
 cases m with
 | nil => simp at h
 | cons x m => rfl
theorem nums_one (v x : Int) (h1 : ¬ v = -1) (h0 : ¬ v = 0) : numsB 0 v [x] = sigB x v := by
 unfold numsB; rw [List.flatMap_cons, List.flatMap_nil, List.append_nil, nums_flat v h1 h0]
theorem left_some (q : Sb) (m : List Int) (h : kdF q m.length ∨ kdL q m.length) : leftR q m = some (resN q m) := by
 rcases h with h | h
 ·obtain ⟨h1, h2, h3, h4, h5, h6⟩ := h
  unfold leftR resN fixR
  rw [if_pos h1, if_pos h1, if_pos (by omega)]
 ·obtain ⟨h1, h2, h3, h4, h5, h6, h7, h8, h9, h10, h11⟩ := h
  unfold leftR resN lpcR
  have hk : ¬ q.k = 2 := by omega
  rw [if_neg hk, if_neg hk, if_pos ⟨(mayB_iff _ _).2 (by omega), by omega⟩, show q.o.toNat = q.C.length by omega]
theorem res_len (q : Sb) (m : List Int) : (resN q m).length = m.length - q.o.toNat := by
 unfold resN; split <;> exact leftN_len _ _ _ _
theorem apart_made {wx w' : World} {la : Option Addr} {lc p : Nat} {R : List Int} {aj : Option Addr} {B : List Nat} (h : Made wx la lc R w') (hw : WrB wx p aj B) : Apart p aj la R := fun h0 b hb hf => by
 obtain ⟨g, rfl, h1, _⟩ := h.at_
 have e : g = b := by simpa [blockOf] using hb
 rcases hf with hf | hf
 ·have := hw.lt; omega
 ·have := hw.blocks b hf; omega
theorem s_body0 (q : Sb) (ca : Option Addr) (cc : Nat) (pa : Option Addr) (pc : Nat) (ea : Option Addr) (ec : Nat) (k0 : q.k = 0) (v : Int) (m : List Int) (g mc : Nat) (hmc : m.length ≤ mc) (p : Nat) (ao : Option Addr) (B : List Nat) (h01 : Bits01 B) (hB : B.length ≤ 100000000) (w : World) (hok : subOk q m.length v) (hq : SbAt w q ca pa ea) (hm : IntsAt w (some ⟨g, 0, none⟩) m) (hw : WrB w p ao B) (aC : Apart p ao ca q.C) (aP : Apart p ao pa q.R.P) (aE : Apart p ao ea q.R.E) (am : Apart p ao (some ⟨g, 0, none⟩) m) (bb : Bool) (hbb : bb = true ↔ (q.k = 2 ∨ q.k = 3 → encR q.R m.length q.o (resN q m) = true)) : Calls Tryz.prog 69 #[.pointer (some ⟨p, 0, none⟩), subV q ca cc pa pc ea ec, .int .i64 (v - q.w), .slice (some ⟨g, 0, none⟩) m.length mc] w fun e w' => e = .returned (.bool bb) ∧ ∃ ao', (bb = true → WrB w' p ao' (B ++ bodyB q v m)) ∧ Stays (foot p ao) w w' ∧ Moved w.heap.size ao ao' := by
 have hml := hm.len
 have nlen : ∀ n, n ≤ m.length → (numsB 0 (v - q.w) (m.take n)).length ≤ 17000000 * n := fun n hn => by
  have := numsB_len 0 (v - q.w) (m.take n)
  rw [List.length_take, Nat.min_eq_left hn] at this
  exact this
 have H0 : Hid (WB w p ao ao B (w.heap.size + 1) (w.alloc (.cells (subC q ca cc pa pc ea ec) 27))) := WB.start hw ((Below.refl _ _).alloc (Nat.le_refl _) _) _ (by simp)
 have X0 : Hid ((w.alloc (.cells (subC q ca cc pa pc ea ec) 27)).heap[w.heap.size]? = some (.cells (subC q ca cc pa pc ea ec) 27 (0, 0))) := heap_alloc_new _ _
 obtain ⟨B0, rfl⟩ : ∃ X, X = B := ⟨_, rfl⟩
 have o0 := h01
 have HBB : Hid (bb = true ↔ (q.k = 2 ∨ q.k = 3 → encR q.R m.length q.o (resN q m) = true)) := hbb
 obtain ⟨hb, hv, hwd, hkd⟩ := hok
 clear hw h01 hbb
 have HBT : Hid (bb = true) := bb_yes HBB.out (fun h => by omega)
 have HBY : Hid (bodyB q v m = numsB 0 (v - q.w) (m.take (1))) := by show _ = _; unfold bodyB; rw [if_pos k0, take_one m (by omega), nums_one _ _ (by omega) (by omega)]
 obtain ⟨nn, hnn⟩ : ∃ X : Nat, X = 1 := ⟨_, rfl⟩
 have hcn : cntN q (m.length : Int) = (nn : Int) := by unfold cntN; rw [if_pos k0]; omega
 have HAS : Hid (∀ wx a, a = subV q ca cc pa pc ea ec → Calls Tryz.prog 133 #[a, .int .i64 (m.length : Int)] wx fun e w' => e = .returned (.int .i64 ((nn : Nat) : Int)) ∧ Below wx.heap.size wx w') := fun wx a ha => by
  rw [ha, ← hcn]; exact s_asThey q ca cc pa pc ea ec m.length wx
 have hn : nn ≤ m.length := by omega
 have hXl : (m.take (nn)).length = nn := by rw [List.length_take]; omega
 have KE : Hid (∀ wx, WB w p ao ao B0 (w.heap.size + 1) wx → Calls Tryz.prog 132 #[.pointer (some ⟨p, 0, none⟩), .slice (some ⟨g, 0, none⟩) (nn) mc, .int .i64 (v - q.w)] wx fun en w' => en = .returned (.tuple #[]) ∧ ∃ ao', WrB w' p ao' (B0 ++ numsB 0 (v - q.w) (m.take (nn))) ∧ Stays (foot p ao) wx w' ∧ Moved wx.heap.size ao ao') := fun wx hh => by
  have hpt := (hh.ints hm am).part 0 (nn) (by omega) (some ⟨g, 0, none⟩) (fun b off e _ => by cases e; rfl)
  rw [List.drop_zero] at hpt
  have hap : Apart p ao (some ⟨g, 0, none⟩) (m.take (nn)) := am.part (fun b hb => hb) (fun h => by rw [hXl] at h; omega)
  have := s_each (m.take (nn)) (v - q.w) (by omega) (some ⟨g, 0, none⟩) mc p ao B0 o0 (by rw [hXl]; omega) wx hpt hh.wr hap
  rw [hXl] at this
  exact this
 have hk0 : (q.k == 0) = true := by rw [beq_iff_eq]; omega
 have hk1 : (q.k == 1) = false := by rw [beq_eq_false_iff_ne]; omega
 have hk2 : (q.k == 2) = false := by rw [beq_eq_false_iff_ne]; omega
 have hk3 : (q.k == 3) = false := by rw [beq_eq_false_iff_ne]; omega
 clear hm hq am aC aP aE hkd
 have HNN : Hid (nn = 1) := hnn
 have hnc : (nn : Int) ≤ (mc : Int) := by omega
 have hnl : (nn : Int) ≤ (m.length : Int) := by omega
 have hn0 : (0 : Int) ≤ (nn : Int) := by omega
 clear hnn hXl hcn
 go_enter Tryz.func69, Tryz.ntmps69
 go_upto_region 1 with fail
 generalize hwa : World.alloc _ _ = wa at *
 clear hwa
 obtain ⟨x0, x1, x2, x3, x4, x5, x6, x7, x8, x9⟩ := sub_cells X0.out
 go_wp2_with fail
 refine (HAS.out _ _ (by simp [k0])).mono ?_
 rintro e w1 ⟨rfl, hb1⟩
 have H0' : Hid (WB w p ao ao B0 (w.heap.size + 1) w1) := H0.out.low hb1
 have X0' : Hid (w1.heap[w.heap.size]? = some (.cells (subC q ca cc pa pc ea ec) 27 (0, 0))) := by show _ = _; rw [hb1.block _ (lt_of_block X0.out)]; exact X0.out
 have ke := KE.out w1 H0'.out
 clear hb1 H0 X0 HAS KE x0 x1 x2 x3 x4 x5 x6 x7 x8 x9
 go_wp2_with fail
 refine (ke).mono ?_
 rintro e w2 ⟨rfl, ao1, hw_, hs_, hv_⟩
 obtain ⟨B1, e1, o1, l1⟩ : ∃ X, X = B0 ++ numsB 0 (v - q.w) (m.take nn) ∧ Bits01 X ∧ X.length ≤ B0.length + 17000000 * nn := ⟨_, rfl, o0.append (numsB_01 _ _ _), by rw [List.length_append]; have := nlen nn hn; omega⟩
 rw [← e1] at hw_
 have H1 : Hid (WB w p ao ao1 B1 (w.heap.size + 1) w2) := H0'.out.put hw_ hs_ hv_
 have X1 : Hid (w2.heap[w.heap.size]? = some (.cells (subC q ca cc pa pc ea ec) 27 (0, 0))) := by show _ = _; rw [H0'.out.box hs_ _ (Nat.le_refl _) (by omega)]; exact X0'.out
 have E1 : Hid (B1 = B0 ++ numsB 0 (v - q.w) (m.take nn)) := e1
 clear hw_ hs_ hv_ e1
 clear ke H0' X0'
 obtain ⟨x0, x1, x2, x3, x4, x5, x6, x7, x8, x9⟩ := sub_cells X1.out
 go_wp2_with fail
 go_ret
 exact ⟨by rw [HBT.out]; rfl, ao1, fun _ => by rw [HBY.out, ← HNN.out, ← E1.out]; exact H1.out.wr, H1.out.st, H1.out.mv⟩
theorem s_body1 (q : Sb) (ca : Option Addr) (cc : Nat) (pa : Option Addr) (pc : Nat) (ea : Option Addr) (ec : Nat) (k1 : q.k = 1) (v : Int) (m : List Int) (g mc : Nat) (hmc : m.length ≤ mc) (p : Nat) (ao : Option Addr) (B : List Nat) (h01 : Bits01 B) (hB : B.length ≤ 100000000) (w : World) (hok : subOk q m.length v) (hq : SbAt w q ca pa ea) (hm : IntsAt w (some ⟨g, 0, none⟩) m) (hw : WrB w p ao B) (aC : Apart p ao ca q.C) (aP : Apart p ao pa q.R.P) (aE : Apart p ao ea q.R.E) (am : Apart p ao (some ⟨g, 0, none⟩) m) (bb : Bool) (hbb : bb = true ↔ (q.k = 2 ∨ q.k = 3 → encR q.R m.length q.o (resN q m) = true)) : Calls Tryz.prog 69 #[.pointer (some ⟨p, 0, none⟩), subV q ca cc pa pc ea ec, .int .i64 (v - q.w), .slice (some ⟨g, 0, none⟩) m.length mc] w fun e w' => e = .returned (.bool bb) ∧ ∃ ao', (bb = true → WrB w' p ao' (B ++ bodyB q v m)) ∧ Stays (foot p ao) w w' ∧ Moved w.heap.size ao ao' := by
 have hml := hm.len
 have nlen : ∀ n, n ≤ m.length → (numsB 0 (v - q.w) (m.take n)).length ≤ 17000000 * n := fun n hn => by
  have := numsB_len 0 (v - q.w) (m.take n)
  rw [List.length_take, Nat.min_eq_left hn] at this
  exact this
 have H0 : Hid (WB w p ao ao B (w.heap.size + 1) (w.alloc (.cells (subC q ca cc pa pc ea ec) 27))) := WB.start hw ((Below.refl _ _).alloc (Nat.le_refl _) _) _ (by simp)
 have X0 : Hid ((w.alloc (.cells (subC q ca cc pa pc ea ec) 27)).heap[w.heap.size]? = some (.cells (subC q ca cc pa pc ea ec) 27 (0, 0))) := heap_alloc_new _ _
 obtain ⟨B0, rfl⟩ : ∃ X, X = B := ⟨_, rfl⟩
 have o0 := h01
 have HBB : Hid (bb = true ↔ (q.k = 2 ∨ q.k = 3 → encR q.R m.length q.o (resN q m) = true)) := hbb
 obtain ⟨hb, hv, hwd, hkd⟩ := hok
 clear hw h01 hbb
 have HBT : Hid (bb = true) := bb_yes HBB.out (fun h => by omega)
 have HBY : Hid (bodyB q v m = numsB 0 (v - q.w) (m.take (m.length))) := by show _ = _; unfold bodyB; rw [if_neg (by omega), if_pos k1, List.take_length]
 obtain ⟨nn, hnn⟩ : ∃ X : Nat, X = m.length := ⟨_, rfl⟩
 have hcn : cntN q (m.length : Int) = (nn : Int) := by unfold cntN; rw [if_neg (by omega), if_pos k1]; omega
 have HAS : Hid (∀ wx a, a = subV q ca cc pa pc ea ec → Calls Tryz.prog 133 #[a, .int .i64 (m.length : Int)] wx fun e w' => e = .returned (.int .i64 ((nn : Nat) : Int)) ∧ Below wx.heap.size wx w') := fun wx a ha => by
  rw [ha, ← hcn]; exact s_asThey q ca cc pa pc ea ec m.length wx
 have hn : nn ≤ m.length := by omega
 have hXl : (m.take (nn)).length = nn := by rw [List.length_take]; omega
 have KE : Hid (∀ wx, WB w p ao ao B0 (w.heap.size + 1) wx → Calls Tryz.prog 132 #[.pointer (some ⟨p, 0, none⟩), .slice (some ⟨g, 0, none⟩) (nn) mc, .int .i64 (v - q.w)] wx fun en w' => en = .returned (.tuple #[]) ∧ ∃ ao', WrB w' p ao' (B0 ++ numsB 0 (v - q.w) (m.take (nn))) ∧ Stays (foot p ao) wx w' ∧ Moved wx.heap.size ao ao') := fun wx hh => by
  have hpt := (hh.ints hm am).part 0 (nn) (by omega) (some ⟨g, 0, none⟩) (fun b off e _ => by cases e; rfl)
  rw [List.drop_zero] at hpt
  have hap : Apart p ao (some ⟨g, 0, none⟩) (m.take (nn)) := am.part (fun b hb => hb) (fun h => by rw [hXl] at h; omega)
  have := s_each (m.take (nn)) (v - q.w) (by omega) (some ⟨g, 0, none⟩) mc p ao B0 o0 (by rw [hXl]; omega) wx hpt hh.wr hap
  rw [hXl] at this
  exact this
 have hk0 : (q.k == 0) = false := by rw [beq_eq_false_iff_ne]; omega
 have hk1 : (q.k == 1) = true := by rw [beq_iff_eq]; omega
 have hk2 : (q.k == 2) = false := by rw [beq_eq_false_iff_ne]; omega
 have hk3 : (q.k == 3) = false := by rw [beq_eq_false_iff_ne]; omega
 clear hm hq am aC aP aE hkd
 have HNN : Hid (nn = m.length) := hnn
 have hnc : (nn : Int) ≤ (mc : Int) := by omega
 have hnl : (nn : Int) ≤ (m.length : Int) := by omega
 have hn0 : (0 : Int) ≤ (nn : Int) := by omega
 clear hnn hXl hcn
 go_enter Tryz.func69, Tryz.ntmps69
 go_upto_region 1 with fail
 generalize hwa : World.alloc _ _ = wa at *
 clear hwa
 obtain ⟨x0, x1, x2, x3, x4, x5, x6, x7, x8, x9⟩ := sub_cells X0.out
 go_wp2_with fail
 refine (HAS.out _ _ (by simp [k1])).mono ?_
 rintro e w1 ⟨rfl, hb1⟩
 have H0' : Hid (WB w p ao ao B0 (w.heap.size + 1) w1) := H0.out.low hb1
 have X0' : Hid (w1.heap[w.heap.size]? = some (.cells (subC q ca cc pa pc ea ec) 27 (0, 0))) := by show _ = _; rw [hb1.block _ (lt_of_block X0.out)]; exact X0.out
 have ke := KE.out w1 H0'.out
 clear hb1 H0 X0 HAS KE x0 x1 x2 x3 x4 x5 x6 x7 x8 x9
 go_wp2_with fail
 refine (ke).mono ?_
 rintro e w2 ⟨rfl, ao1, hw_, hs_, hv_⟩
 obtain ⟨B1, e1, o1, l1⟩ : ∃ X, X = B0 ++ numsB 0 (v - q.w) (m.take nn) ∧ Bits01 X ∧ X.length ≤ B0.length + 17000000 * nn := ⟨_, rfl, o0.append (numsB_01 _ _ _), by rw [List.length_append]; have := nlen nn hn; omega⟩
 rw [← e1] at hw_
 have H1 : Hid (WB w p ao ao1 B1 (w.heap.size + 1) w2) := H0'.out.put hw_ hs_ hv_
 have X1 : Hid (w2.heap[w.heap.size]? = some (.cells (subC q ca cc pa pc ea ec) 27 (0, 0))) := by show _ = _; rw [H0'.out.box hs_ _ (Nat.le_refl _) (by omega)]; exact X0'.out
 have E1 : Hid (B1 = B0 ++ numsB 0 (v - q.w) (m.take nn)) := e1
 clear hw_ hs_ hv_ e1
 clear ke H0' X0'
 obtain ⟨x0, x1, x2, x3, x4, x5, x6, x7, x8, x9⟩ := sub_cells X1.out
 go_wp2_with fail
 go_ret
 exact ⟨by rw [HBT.out]; rfl, ao1, fun _ => by rw [HBY.out, ← HNN.out, ← E1.out]; exact H1.out.wr, H1.out.st, H1.out.mv⟩
theorem s_body2 (q : Sb) (ca : Option Addr) (cc : Nat) (pa : Option Addr) (pc : Nat) (ea : Option Addr) (ec : Nat) (k2 : q.k = 2) (v : Int) (m : List Int) (g mc : Nat) (hmc : m.length ≤ mc) (p : Nat) (ao : Option Addr) (B : List Nat) (h01 : Bits01 B) (hB : B.length ≤ 100000000) (w : World) (hok : subOk q m.length v) (hq : SbAt w q ca pa ea) (hm : IntsAt w (some ⟨g, 0, none⟩) m) (hw : WrB w p ao B) (aC : Apart p ao ca q.C) (aP : Apart p ao pa q.R.P) (aE : Apart p ao ea q.R.E) (am : Apart p ao (some ⟨g, 0, none⟩) m) (bb : Bool) (hbb : bb = true ↔ (q.k = 2 ∨ q.k = 3 → encR q.R m.length q.o (resN q m) = true)) : Calls Tryz.prog 69 #[.pointer (some ⟨p, 0, none⟩), subV q ca cc pa pc ea ec, .int .i64 (v - q.w), .slice (some ⟨g, 0, none⟩) m.length mc] w fun e w' => e = .returned (.bool bb) ∧ ∃ ao', (bb = true → WrB w' p ao' (B ++ bodyB q v m)) ∧ Stays (foot p ao) w w' ∧ Moved w.heap.size ao ao' := by
 have hml := hm.len
 have nlen : ∀ n, n ≤ m.length → (numsB 0 (v - q.w) (m.take n)).length ≤ 17000000 * n := fun n hn => by
  have := numsB_len 0 (v - q.w) (m.take n)
  rw [List.length_take, Nat.min_eq_left hn] at this
  exact this
 have H0 : Hid (WB w p ao ao B (w.heap.size + 1) (w.alloc (.cells (subC q ca cc pa pc ea ec) 27))) := WB.start hw ((Below.refl _ _).alloc (Nat.le_refl _) _) _ (by simp)
 have X0 : Hid ((w.alloc (.cells (subC q ca cc pa pc ea ec) 27)).heap[w.heap.size]? = some (.cells (subC q ca cc pa pc ea ec) 27 (0, 0))) := heap_alloc_new _ _
 obtain ⟨B0, rfl⟩ : ∃ X, X = B := ⟨_, rfl⟩
 have o0 := h01
 have HBB : Hid (bb = true ↔ (q.k = 2 ∨ q.k = 3 → encR q.R m.length q.o (resN q m) = true)) := hbb
 obtain ⟨hb, hv, hwd, hkd⟩ := hok
 clear hw h01 hbb
 have hF : kdF q m.length := by
  rcases hkd with h | h | h
  ·have := h.1; omega
  ·exact h
  ·have := h.1; omega
 have hF2 := hF.2.2
 have HLF : Hid (∀ wx a, a = subV q ca cc pa pc ea ec → ∀ aj Bj K, WB w p ao aj Bj K wx → Calls Tryz.prog 134 #[a, .slice (some ⟨g, 0, none⟩) m.length mc] wx fun e w' => ∃ la lc, e = .returned (.tuple #[.slice la (resN q m).length lc, .int .i64 0]) ∧ Made wx la lc (resN q m) w') := fun wx a ha aj Bj K hh => by
  rw [ha]; exact s_left q ca cc pa pc ea ec m (some ⟨g, 0, none⟩) mc hmc (resN q m) (left_some q m (.inl hF)) wx (hh.ints hq.C aC) (hh.ints hm am)
 have HRC : Hid (∀ wx aj Bj K, WB w p ao aj Bj K wx → RcAt wx q.R pa ea) := fun wx aj Bj K hh => ⟨hh.ints hq.R.P aP, hh.ints hq.R.E aE, hq.R.m1, hq.R.m2, hq.R.o1, hq.R.o2⟩
 have HAP : Hid (∀ aj, Moved w.heap.size ao aj → Apart p aj pa q.R.P ∧ Apart p aj ea q.R.E) := fun aj hh => ⟨aP.moved hq.R.P hh, aE.moved hq.R.E hh⟩
 have HRS : Hid (ShX (resN q m)) := ⟨trivial, by rw [res_len]; omega⟩
 have HBY : Hid (bodyB q v m = numsB 0 (v - q.w) (m.take q.o.toNat) ++ encB q.R m.length q.o.toNat (resN q m)) := by show _ = _; unfold bodyB; rw [if_neg (by omega), if_neg (by omega), if_pos k2]
 obtain ⟨nn, hnn⟩ : ∃ X : Nat, X = q.o.toNat := ⟨_, rfl⟩
 have hcn : cntN q (m.length : Int) = (nn : Int) := by unfold cntN; rw [if_neg (by omega), if_neg (by omega)]; omega
 have HAS : Hid (∀ wx a, a = subV q ca cc pa pc ea ec → Calls Tryz.prog 133 #[a, .int .i64 (m.length : Int)] wx fun e w' => e = .returned (.int .i64 ((nn : Nat) : Int)) ∧ Below wx.heap.size wx w') := fun wx a ha => by
  rw [ha, ← hcn]; exact s_asThey q ca cc pa pc ea ec m.length wx
 have hn : nn ≤ m.length := by omega
 have hXl : (m.take (nn)).length = nn := by rw [List.length_take]; omega
 have KE : Hid (∀ wx, WB w p ao ao B0 (w.heap.size + 1) wx → Calls Tryz.prog 132 #[.pointer (some ⟨p, 0, none⟩), .slice (some ⟨g, 0, none⟩) (nn) mc, .int .i64 (v - q.w)] wx fun en w' => en = .returned (.tuple #[]) ∧ ∃ ao', WrB w' p ao' (B0 ++ numsB 0 (v - q.w) (m.take (nn))) ∧ Stays (foot p ao) wx w' ∧ Moved wx.heap.size ao ao') := fun wx hh => by
  have hpt := (hh.ints hm am).part 0 (nn) (by omega) (some ⟨g, 0, none⟩) (fun b off e _ => by cases e; rfl)
  rw [List.drop_zero] at hpt
  have hap : Apart p ao (some ⟨g, 0, none⟩) (m.take (nn)) := am.part (fun b hb => hb) (fun h => by rw [hXl] at h; omega)
  have := s_each (m.take (nn)) (v - q.w) (by omega) (some ⟨g, 0, none⟩) mc p ao B0 o0 (by rw [hXl]; omega) wx hpt hh.wr hap
  rw [hXl] at this
  exact this
 have hk0 : (q.k == 0) = false := by rw [beq_eq_false_iff_ne]; omega
 have hk1 : (q.k == 1) = false := by rw [beq_eq_false_iff_ne]; omega
 have hk2 : (q.k == 2) = true := by rw [beq_iff_eq]; omega
 have hk3 : (q.k == 3) = false := by rw [beq_eq_false_iff_ne]; omega
 clear hm hq am aC aP aE hkd
 have hoo : 0 ≤ q.o ∧ q.o ≤ 4 := by omega
 clear hF hF2
 generalize resN q m = R at *
 have HNN : Hid (nn = q.o.toNat) := hnn
 have hnc : (nn : Int) ≤ (mc : Int) := by omega
 have hnl : (nn : Int) ≤ (m.length : Int) := by omega
 have hn0 : (0 : Int) ≤ (nn : Int) := by omega
 clear hnn hXl hcn
 go_enter Tryz.func69, Tryz.ntmps69
 go_upto_region 1 with fail
 generalize hwa : World.alloc _ _ = wa at *
 clear hwa
 obtain ⟨x0, x1, x2, x3, x4, x5, x6, x7, x8, x9⟩ := sub_cells X0.out
 go_wp2_with fail
 refine (HAS.out _ _ (by simp [k2])).mono ?_
 rintro e w1 ⟨rfl, hb1⟩
 have H0' : Hid (WB w p ao ao B0 (w.heap.size + 1) w1) := H0.out.low hb1
 have X0' : Hid (w1.heap[w.heap.size]? = some (.cells (subC q ca cc pa pc ea ec) 27 (0, 0))) := by show _ = _; rw [hb1.block _ (lt_of_block X0.out)]; exact X0.out
 have ke := KE.out w1 H0'.out
 clear hb1 H0 X0 HAS KE x0 x1 x2 x3 x4 x5 x6 x7 x8 x9
 go_wp2_with fail
 refine (ke).mono ?_
 rintro e w2 ⟨rfl, ao1, hw_, hs_, hv_⟩
 obtain ⟨B1, e1, o1, l1⟩ : ∃ X, X = B0 ++ numsB 0 (v - q.w) (m.take nn) ∧ Bits01 X ∧ X.length ≤ B0.length + 17000000 * nn := ⟨_, rfl, o0.append (numsB_01 _ _ _), by rw [List.length_append]; have := nlen nn hn; omega⟩
 rw [← e1] at hw_
 have H1 : Hid (WB w p ao ao1 B1 (w.heap.size + 1) w2) := H0'.out.put hw_ hs_ hv_
 have X1 : Hid (w2.heap[w.heap.size]? = some (.cells (subC q ca cc pa pc ea ec) 27 (0, 0))) := by show _ = _; rw [H0'.out.box hs_ _ (Nat.le_refl _) (by omega)]; exact X0'.out
 have E1 : Hid (B1 = B0 ++ numsB 0 (v - q.w) (m.take nn)) := e1
 clear hw_ hs_ hv_ e1
 clear ke H0' X0'
 obtain ⟨x0, x1, x2, x3, x4, x5, x6, x7, x8, x9⟩ := sub_cells X1.out
 go_wp2_with fail
 refine (HLF.out _ _ (by simp [k2]) _ _ _ H1.out).mono ?_
 rintro e w8 ⟨la, lc, rfl, hmd⟩
 have H8 : Hid (WB w p ao ao1 B1 (w.heap.size + 1) w8) := H1.out.low hmd.below
 have X8 : Hid (w8.heap[w.heap.size]? = some (.cells (subC q ca cc pa pc ea ec) 27 (0, 0))) := by show _ = _; rw [hmd.below.block _ (lt_of_block X1.out)]; exact X1.out
 have ke := encode_all q.R R HRS.out pa pc ea ec la lc hmd.cap_ hmd.none_ p ao1 B1 o1 (by omega) w8 (HRC.out _ _ _ _ H8.out) hmd.ints H8.out.wr (HAP.out _ H8.out.mv).1 (HAP.out _ H8.out.mv).2 (apart_made hmd H1.out.wr) (m.length : Int) q.o
 clear hmd H1 X1 HLF x0 x1 x2 x3 x4 x5 x6 x7 x8 x9
 obtain ⟨x0, x1, x2, x3, x4, x5, x6, x7, x8, x9⟩ := sub_cells X8.out
 by_cases hE : encR q.R (m.length : Int) q.o R = true
 ·have e1 : encN q.R (m.length : Int) q.o R = 0 := by unfold encN; rw [hE]; rfl
  have e2 : encL q.R (m.length : Int) q.o R = encB q.R m.length q.o.toNat R := by unfold encL; rw [hE, Int.toNat_natCast]; rfl
  have HBT : Hid (bb = true) := bb_yes HBB.out (fun _ => hE)
  rw [e1, e2] at ke
  clear e1 e2 hE
  generalize encB q.R m.length q.o.toNat R = EB at *
  go_wp2_with fail
  refine ke.mono ?_
  rintro e w9 ⟨rfl, ao9, hw9, hs9, hv9⟩
  have H9 : Hid (WB w p ao ao9 (B1 ++ EB) (w.heap.size + 1) w9) := H8.out.put hw9 hs9 hv9
  clear ke hw9 hs9 hv9 H8 X8 x0 x1 x2 x3 x4 x5 x6 x7 x8 x9
  go_wp2_with fail
  go_ret
  exact ⟨by rw [HBT.out]; rfl, ao9, fun _ => by rw [HBY.out]; exact by rw [← HNN.out, ← List.append_assoc, ← E1.out]; exact H9.out.wr, H9.out.st, H9.out.mv⟩
 ·have e1 : encN q.R (m.length : Int) q.o R = 60 := by unfold encN; rw [if_neg hE]
  have HBT : Hid (bb = false) := bb_no HBB.out (fun h => hE (h (by omega)))
  rw [e1] at ke
  clear e1 hE
  go_wp2_with fail
  refine ke.mono ?_
  rintro e w9 ⟨rfl, ao9, hw9, hs9, hv9⟩
  have H9 : Hid (WB w p ao ao9 _ (w.heap.size + 1) w9) := H8.out.put hw9 hs9 hv9
  clear ke hw9 hs9 hv9 H8 X8 x0 x1 x2 x3 x4 x5 x6 x7 x8 x9
  go_wp2_with fail
  go_ret
  exact ⟨by rw [HBT.out]; rfl, ao9, (fun h => by rw [HBT.out] at h; cases h), H9.out.st, H9.out.mv⟩
theorem s_body3 (q : Sb) (ca : Option Addr) (cc : Nat) (pa : Option Addr) (pc : Nat) (ea : Option Addr) (ec : Nat) (k3 : q.k = 3) (v : Int) (m : List Int) (g mc : Nat) (hmc : m.length ≤ mc) (p : Nat) (ao : Option Addr) (B : List Nat) (h01 : Bits01 B) (hB : B.length ≤ 100000000) (w : World) (hok : subOk q m.length v) (hq : SbAt w q ca pa ea) (hm : IntsAt w (some ⟨g, 0, none⟩) m) (hw : WrB w p ao B) (aC : Apart p ao ca q.C) (aP : Apart p ao pa q.R.P) (aE : Apart p ao ea q.R.E) (am : Apart p ao (some ⟨g, 0, none⟩) m) (bb : Bool) (hbb : bb = true ↔ (q.k = 2 ∨ q.k = 3 → encR q.R m.length q.o (resN q m) = true)) : Calls Tryz.prog 69 #[.pointer (some ⟨p, 0, none⟩), subV q ca cc pa pc ea ec, .int .i64 (v - q.w), .slice (some ⟨g, 0, none⟩) m.length mc] w fun e w' => e = .returned (.bool bb) ∧ ∃ ao', (bb = true → WrB w' p ao' (B ++ bodyB q v m)) ∧ Stays (foot p ao) w w' ∧ Moved w.heap.size ao ao' := by
 have hml := hm.len
 have nlen : ∀ n, n ≤ m.length → (numsB 0 (v - q.w) (m.take n)).length ≤ 17000000 * n := fun n hn => by
  have := numsB_len 0 (v - q.w) (m.take n)
  rw [List.length_take, Nat.min_eq_left hn] at this
  exact this
 have H0 : Hid (WB w p ao ao B (w.heap.size + 1) (w.alloc (.cells (subC q ca cc pa pc ea ec) 27))) := WB.start hw ((Below.refl _ _).alloc (Nat.le_refl _) _) _ (by simp)
 have X0 : Hid ((w.alloc (.cells (subC q ca cc pa pc ea ec) 27)).heap[w.heap.size]? = some (.cells (subC q ca cc pa pc ea ec) 27 (0, 0))) := heap_alloc_new _ _
 obtain ⟨B0, rfl⟩ : ∃ X, X = B := ⟨_, rfl⟩
 have o0 := h01
 have HBB : Hid (bb = true ↔ (q.k = 2 ∨ q.k = 3 → encR q.R m.length q.o (resN q m) = true)) := hbb
 obtain ⟨hb, hv, hwd, hkd⟩ := hok
 clear hw h01 hbb
 have hL : kdL q m.length := by
  rcases hkd with h | h | h
  ·have := h.1; omega
  ·have := h.1; omega
  ·exact h
 have hL2 := hL
 obtain ⟨_, g2, g3, g4, g5, g6, g7, g8, g9, g10, g11⟩ := hL
 have HLF : Hid (∀ wx a, a = subV q ca cc pa pc ea ec → ∀ aj Bj K, WB w p ao aj Bj K wx → Calls Tryz.prog 134 #[a, .slice (some ⟨g, 0, none⟩) m.length mc] wx fun e w' => ∃ la lc, e = .returned (.tuple #[.slice la (resN q m).length lc, .int .i64 0]) ∧ Made wx la lc (resN q m) w') := fun wx a ha aj Bj K hh => by
  rw [ha]; exact s_left q ca cc pa pc ea ec m (some ⟨g, 0, none⟩) mc hmc (resN q m) (left_some q m (.inr hL2)) wx (hh.ints hq.C aC) (hh.ints hm am)
 have HRC : Hid (∀ wx aj Bj K, WB w p ao aj Bj K wx → RcAt wx q.R pa ea) := fun wx aj Bj K hh => ⟨hh.ints hq.R.P aP, hh.ints hq.R.E aE, hq.R.m1, hq.R.m2, hq.R.o1, hq.R.o2⟩
 have HAP : Hid (∀ aj, Moved w.heap.size ao aj → Apart p aj pa q.R.P ∧ Apart p aj ea q.R.E) := fun aj hh => ⟨aP.moved hq.R.P hh, aE.moved hq.R.E hh⟩
 have HRS : Hid (ShX (resN q m)) := ⟨trivial, by rw [res_len]; omega⟩
 have HBY : Hid (bodyB q v m = numsB 0 (v - q.w) (m.take q.o.toNat) ++ (putB (q.p - 1) 4 ++ (putB q.h 5 ++ (numsB 0 q.p q.C ++ encB q.R m.length q.o.toNat (resN q m))))) := by show _ = _; unfold bodyB; rw [if_neg (by omega), if_neg (by omega), if_neg (by omega)]
 have KC : Hid (∀ wx aj Bj, Bits01 Bj → Bj.length ≤ 1000000000 → WB w p ao aj Bj (w.heap.size + 1) wx → Calls Tryz.prog 132 #[.pointer (some ⟨p, 0, none⟩), .slice ca q.C.length cc, .int .i64 q.p] wx fun en w' => en = .returned (.tuple #[]) ∧ ∃ ao', WrB w' p ao' (Bj ++ numsB 0 q.p q.C) ∧ Stays (foot p aj) wx w' ∧ Moved wx.heap.size aj ao') := fun wx aj Bj hj hl hh => s_each q.C q.p (by omega) ca cc p aj Bj hj (by omega) wx (hh.ints hq.C aC) hh.wr (aC.moved hq.C hh.mv)
 have clen : (numsB 0 q.p q.C).length ≤ 17000000 * 32 := by
  have := numsB_len 0 q.p q.C
  omega
 obtain ⟨nn, hnn⟩ : ∃ X : Nat, X = q.o.toNat := ⟨_, rfl⟩
 have hn32 : nn ≤ 32 := by omega
 have hcn : cntN q (m.length : Int) = (nn : Int) := by unfold cntN; rw [if_neg (by omega), if_neg (by omega)]; omega
 have HAS : Hid (∀ wx a, a = subV q ca cc pa pc ea ec → Calls Tryz.prog 133 #[a, .int .i64 (m.length : Int)] wx fun e w' => e = .returned (.int .i64 ((nn : Nat) : Int)) ∧ Below wx.heap.size wx w') := fun wx a ha => by
  rw [ha, ← hcn]; exact s_asThey q ca cc pa pc ea ec m.length wx
 have hn : nn ≤ m.length := by omega
 have hXl : (m.take (nn)).length = nn := by rw [List.length_take]; omega
 have KE : Hid (∀ wx, WB w p ao ao B0 (w.heap.size + 1) wx → Calls Tryz.prog 132 #[.pointer (some ⟨p, 0, none⟩), .slice (some ⟨g, 0, none⟩) (nn) mc, .int .i64 (v - q.w)] wx fun en w' => en = .returned (.tuple #[]) ∧ ∃ ao', WrB w' p ao' (B0 ++ numsB 0 (v - q.w) (m.take (nn))) ∧ Stays (foot p ao) wx w' ∧ Moved wx.heap.size ao ao') := fun wx hh => by
  have hpt := (hh.ints hm am).part 0 (nn) (by omega) (some ⟨g, 0, none⟩) (fun b off e _ => by cases e; rfl)
  rw [List.drop_zero] at hpt
  have hap : Apart p ao (some ⟨g, 0, none⟩) (m.take (nn)) := am.part (fun b hb => hb) (fun h => by rw [hXl] at h; omega)
  have := s_each (m.take (nn)) (v - q.w) (by omega) (some ⟨g, 0, none⟩) mc p ao B0 o0 (by rw [hXl]; omega) wx hpt hh.wr hap
  rw [hXl] at this
  exact this
 have hk0 : (q.k == 0) = false := by rw [beq_eq_false_iff_ne]; omega
 have hk1 : (q.k == 1) = false := by rw [beq_eq_false_iff_ne]; omega
 have hk2 : (q.k == 2) = false := by rw [beq_eq_false_iff_ne]; omega
 have hk3 : (q.k == 3) = true := by rw [beq_iff_eq]; omega
 clear hm hq am aC aP aE hkd
 clear g9 g10 g11 hL2
 generalize resN q m = R at *
 have HNN : Hid (nn = q.o.toNat) := hnn
 have hnc : (nn : Int) ≤ (mc : Int) := by omega
 have hnl : (nn : Int) ≤ (m.length : Int) := by omega
 have hn0 : (0 : Int) ≤ (nn : Int) := by omega
 clear hnn hXl hcn
 go_enter Tryz.func69, Tryz.ntmps69
 go_upto_region 1 with fail
 generalize hwa : World.alloc _ _ = wa at *
 clear hwa
 obtain ⟨x0, x1, x2, x3, x4, x5, x6, x7, x8, x9⟩ := sub_cells X0.out
 go_wp2_with fail
 refine (HAS.out _ _ (by simp [k3])).mono ?_
 rintro e w1 ⟨rfl, hb1⟩
 have H0' : Hid (WB w p ao ao B0 (w.heap.size + 1) w1) := H0.out.low hb1
 have X0' : Hid (w1.heap[w.heap.size]? = some (.cells (subC q ca cc pa pc ea ec) 27 (0, 0))) := by show _ = _; rw [hb1.block _ (lt_of_block X0.out)]; exact X0.out
 have ke := KE.out w1 H0'.out
 clear hb1 H0 X0 HAS KE x0 x1 x2 x3 x4 x5 x6 x7 x8 x9
 go_wp2_with fail
 refine (ke).mono ?_
 rintro e w2 ⟨rfl, ao1, hw_, hs_, hv_⟩
 obtain ⟨B1, e1, o1, l1⟩ : ∃ X, X = B0 ++ numsB 0 (v - q.w) (m.take nn) ∧ Bits01 X ∧ X.length ≤ B0.length + 17000000 * nn := ⟨_, rfl, o0.append (numsB_01 _ _ _), by rw [List.length_append]; have := nlen nn hn; omega⟩
 rw [← e1] at hw_
 have H1 : Hid (WB w p ao ao1 B1 (w.heap.size + 1) w2) := H0'.out.put hw_ hs_ hv_
 have X1 : Hid (w2.heap[w.heap.size]? = some (.cells (subC q ca cc pa pc ea ec) 27 (0, 0))) := by show _ = _; rw [H0'.out.box hs_ _ (Nat.le_refl _) (by omega)]; exact X0'.out
 have E1 : Hid (B1 = B0 ++ numsB 0 (v - q.w) (m.take nn)) := e1
 clear hw_ hs_ hv_ e1
 clear ke H0' X0'
 obtain ⟨x0, x1, x2, x3, x4, x5, x6, x7, x8, x9⟩ := sub_cells X1.out
 go_wp2_with fail
 refine (wput_all w2 ao1 B1 p (q.p - 1) 4 (by omega) (by omega) o1 (by omega) H1.out.wr).mono ?_
 rintro e w3 ⟨rfl, ao2, hw_, hs_, hv_⟩
 obtain ⟨B2, e2, o2, l2⟩ : ∃ X, X = B1 ++ putB (q.p - 1) 4 ∧ Bits01 X ∧ X.length ≤ B1.length + 17000000 := ⟨_, rfl, o1.append (putB_01 _ _), by rw [List.length_append]; have := putB_len (q.p - 1) 4; omega⟩
 rw [← e2] at hw_
 have H2 : Hid (WB w p ao ao2 B2 (w.heap.size + 1) w3) := H1.out.put hw_ hs_ hv_
 have X2 : Hid (w3.heap[w.heap.size]? = some (.cells (subC q ca cc pa pc ea ec) 27 (0, 0))) := by show _ = _; rw [H1.out.box hs_ _ (Nat.le_refl _) (by omega)]; exact X1.out
 have E2 : Hid (B2 = B1 ++ putB (q.p - 1) 4) := e2
 clear hw_ hs_ hv_ e2
 clear H1 X1 x0 x1 x2 x3 x4 x5 x6 x7 x8 x9
 obtain ⟨x0, x1, x2, x3, x4, x5, x6, x7, x8, x9⟩ := sub_cells X2.out
 go_wp2_with fail
 refine (wput_all w3 ao2 B2 p q.h 5 (by omega) (by omega) o2 (by omega) H2.out.wr).mono ?_
 rintro e w4 ⟨rfl, ao3, hw_, hs_, hv_⟩
 obtain ⟨B3, e3, o3, l3⟩ : ∃ X, X = B2 ++ putB q.h 5 ∧ Bits01 X ∧ X.length ≤ B2.length + 17000000 := ⟨_, rfl, o2.append (putB_01 _ _), by rw [List.length_append]; have := putB_len q.h 5; omega⟩
 rw [← e3] at hw_
 have H3 : Hid (WB w p ao ao3 B3 (w.heap.size + 1) w4) := H2.out.put hw_ hs_ hv_
 have X3 : Hid (w4.heap[w.heap.size]? = some (.cells (subC q ca cc pa pc ea ec) 27 (0, 0))) := by show _ = _; rw [H2.out.box hs_ _ (Nat.le_refl _) (by omega)]; exact X2.out
 have E3 : Hid (B3 = B2 ++ putB q.h 5) := e3
 clear hw_ hs_ hv_ e3
 clear H2 X2 x0 x1 x2 x3 x4 x5 x6 x7 x8 x9
 obtain ⟨x0, x1, x2, x3, x4, x5, x6, x7, x8, x9⟩ := sub_cells X3.out
 have kc := KC.out w4 ao3 B3 o3 (by omega) H3.out
 clear KC
 go_wp2_with fail
 refine (kc).mono ?_
 rintro e w5 ⟨rfl, ao4, hw_, hs_, hv_⟩
 obtain ⟨B4, e4, o4, l4⟩ : ∃ X, X = B3 ++ numsB 0 q.p q.C ∧ Bits01 X ∧ X.length ≤ B3.length + 17000000 * 32 := ⟨_, rfl, o3.append (numsB_01 _ _ _), by rw [List.length_append]; have := clen; omega⟩
 rw [← e4] at hw_
 have H4 : Hid (WB w p ao ao4 B4 (w.heap.size + 1) w5) := H3.out.put hw_ hs_ hv_
 have X4 : Hid (w5.heap[w.heap.size]? = some (.cells (subC q ca cc pa pc ea ec) 27 (0, 0))) := by show _ = _; rw [H3.out.box hs_ _ (Nat.le_refl _) (by omega)]; exact X3.out
 have E4 : Hid (B4 = B3 ++ numsB 0 q.p q.C) := e4
 clear hw_ hs_ hv_ e4
 clear kc H3 X3 x0 x1 x2 x3 x4 x5 x6 x7 x8 x9
 obtain ⟨x0, x1, x2, x3, x4, x5, x6, x7, x8, x9⟩ := sub_cells X4.out
 go_wp2_with fail
 refine (HLF.out _ _ (by simp [k3]) _ _ _ H4.out).mono ?_
 rintro e w8 ⟨la, lc, rfl, hmd⟩
 have H8 : Hid (WB w p ao ao4 B4 (w.heap.size + 1) w8) := H4.out.low hmd.below
 have X8 : Hid (w8.heap[w.heap.size]? = some (.cells (subC q ca cc pa pc ea ec) 27 (0, 0))) := by show _ = _; rw [hmd.below.block _ (lt_of_block X4.out)]; exact X4.out
 have ke := encode_all q.R R HRS.out pa pc ea ec la lc hmd.cap_ hmd.none_ p ao4 B4 o4 (by omega) w8 (HRC.out _ _ _ _ H8.out) hmd.ints H8.out.wr (HAP.out _ H8.out.mv).1 (HAP.out _ H8.out.mv).2 (apart_made hmd H4.out.wr) (m.length : Int) q.o
 clear hmd H4 X4 HLF x0 x1 x2 x3 x4 x5 x6 x7 x8 x9
 obtain ⟨x0, x1, x2, x3, x4, x5, x6, x7, x8, x9⟩ := sub_cells X8.out
 by_cases hE : encR q.R (m.length : Int) q.o R = true
 ·have e1 : encN q.R (m.length : Int) q.o R = 0 := by unfold encN; rw [hE]; rfl
  have e2 : encL q.R (m.length : Int) q.o R = encB q.R m.length q.o.toNat R := by unfold encL; rw [hE, Int.toNat_natCast]; rfl
  have HBT : Hid (bb = true) := bb_yes HBB.out (fun _ => hE)
  rw [e1, e2] at ke
  clear e1 e2 hE
  generalize encB q.R m.length q.o.toNat R = EB at *
  go_wp2_with fail
  refine ke.mono ?_
  rintro e w9 ⟨rfl, ao9, hw9, hs9, hv9⟩
  have H9 : Hid (WB w p ao ao9 (B4 ++ EB) (w.heap.size + 1) w9) := H8.out.put hw9 hs9 hv9
  clear ke hw9 hs9 hv9 H8 X8 x0 x1 x2 x3 x4 x5 x6 x7 x8 x9
  go_wp2_with fail
  go_ret
  exact ⟨by rw [HBT.out]; rfl, ao9, fun _ => by rw [HBY.out]; exact by rw [← HNN.out, ← List.append_assoc, ← E1.out, ← List.append_assoc, ← E2.out, ← List.append_assoc, ← E3.out, ← List.append_assoc, ← E4.out]; exact H9.out.wr, H9.out.st, H9.out.mv⟩
 ·have e1 : encN q.R (m.length : Int) q.o R = 60 := by unfold encN; rw [if_neg hE]
  have HBT : Hid (bb = false) := bb_no HBB.out (fun h => hE (h (by omega)))
  rw [e1] at ke
  clear e1 hE
  go_wp2_with fail
  refine ke.mono ?_
  rintro e w9 ⟨rfl, ao9, hw9, hs9, hv9⟩
  have H9 : Hid (WB w p ao ao9 _ (w.heap.size + 1) w9) := H8.out.put hw9 hs9 hv9
  clear ke hw9 hs9 hv9 H8 X8 x0 x1 x2 x3 x4 x5 x6 x7 x8 x9
  go_wp2_with fail
  go_ret
  exact ⟨by rw [HBT.out]; rfl, ao9, (fun h => by rw [HBT.out] at h; cases h), H9.out.st, H9.out.mv⟩
theorem s_body (q : Sb) (ca : Option Addr) (cc : Nat) (pa : Option Addr) (pc : Nat) (ea : Option Addr) (ec : Nat) (v : Int) (m : List Int) (g mc : Nat) (hmc : m.length ≤ mc) (p : Nat) (ao : Option Addr) (B : List Nat) (h01 : Bits01 B) (hB : B.length ≤ 100000000) (w : World) (hok : subOk q m.length v) (hq : SbAt w q ca pa ea) (hm : IntsAt w (some ⟨g, 0, none⟩) m) (hw : WrB w p ao B) (aC : Apart p ao ca q.C) (aP : Apart p ao pa q.R.P) (aE : Apart p ao ea q.R.E) (am : Apart p ao (some ⟨g, 0, none⟩) m) (bb : Bool) (hbb : bb = true ↔ (q.k = 2 ∨ q.k = 3 → encR q.R m.length q.o (resN q m) = true)) : Calls Tryz.prog 69 #[.pointer (some ⟨p, 0, none⟩), subV q ca cc pa pc ea ec, .int .i64 (v - q.w), .slice (some ⟨g, 0, none⟩) m.length mc] w fun e w' => e = .returned (.bool bb) ∧ ∃ ao', (bb = true → WrB w' p ao' (B ++ bodyB q v m)) ∧ Stays (foot p ao) w w' ∧ Moved w.heap.size ao ao' := by
 have hk := hok.2.2.2
 by_cases k0 : q.k = 0
 ·exact s_body0 q ca cc pa pc ea ec k0 v m g mc hmc p ao B h01 hB w hok hq hm hw aC aP aE am bb hbb
 by_cases k1 : q.k = 1
 ·exact s_body1 q ca cc pa pc ea ec k1 v m g mc hmc p ao B h01 hB w hok hq hm hw aC aP aE am bb hbb
 by_cases k2 : q.k = 2
 ·exact s_body2 q ca cc pa pc ea ec k2 v m g mc hmc p ao B h01 hB w hok hq hm hw aC aP aE am bb hbb
 ·have k3 : q.k = 3 := by
   rcases hk with h | h | h
   ·have := h.1; omega
   ·have := h.1; omega
   ·exact h.1
  exact s_body3 q ca cc pa pc ea ec k3 v m g mc hmc p ao B h01 hB w hok hq hm hw aC aP aE am bb hbb
theorem WB.look {w wx w' : World} {p : Nat} {ao0 ao : Option Addr} {B : List Nat} {K x : Nat} (h : WB w p ao0 ao B K wx) (hS : Stays (only x) wx w') (h1 : w.heap.size ≤ x) (h2 : x < K) : WB w p ao0 ao B K w' := by
 refine ⟨h.wr.only hS (by have := h.hp; omega) (fun b hb e => h.nb b hb ⟨by omega, by omega⟩), h.st.trans hS (fun i hi e => by unfold only at e; omega), h.mv, h.hp, h.nb, Nat.le_trans h.kk hS.size⟩
theorem pour_step (D : List Nat) (h01 : Bits01 D) (k pt : Nat) (h : k + pt ≤ D.length) (h64 : pt ≤ 64) :
  getE (textOf (pack D)) k pt = 0 ∧ getA (textOf (pack D)) k pt = k + pt ∧ D.take (k + pt) = D.take k ++ putB (getV (textOf (pack D)) k pt) pt ∧ 0 ≤ getV (textOf (pack D)) k pt ∧ getV (textOf (pack D)) k pt ≤ 18446744073709551615 := by
 obtain ⟨R, a1, a2⟩ := ahead_pack D (D.take k) (D.drop k) [] h01 (by rw [List.append_nil, List.take_append_drop])
 have hlk : (D.take k).length = k := by rw [List.length_take]; omega
 have hld : (D.drop k).length = D.length - k := List.length_drop
 rw [hlk] at a1 a2
 have hE : getE (textOf (pack D)) k pt = 0 := by
  unfold getE
  rw [if_neg (by omega), if_neg (by rw [Int.toNat_natCast]; simp only [List.length_nil] at a2; omega)]
 have hA : getA (textOf (pack D)) k pt = k + pt := by unfold getA; rw [if_pos hE, Int.toNat_natCast]
 obtain ⟨b0, b1, b2⟩ := get_again (textOf (pack D)) k pt hE
 have hl : (putB (getV (textOf (pack D)) k pt) pt).length = pt := by omega
 have hb := getV_bound (textOf (pack D)) k pt
 have hp : (2 : Nat) ^ pt ≤ 2 ^ 64 := Nat.pow_le_pow_right (by decide) h64
 have e64 : (2 : Nat) ^ 64 = 18446744073709551616 := by decide
 rw [Int.toNat_natCast, pow_int] at hb
 refine ⟨hE, hA, ?_, by omega, by omega⟩
 have e : (ahead (textOf (pack D)) k).take pt = putB (getV (textOf (pack D)) k pt) pt := by
  rw [b1, List.take_append_of_le_length (by omega), List.take_of_length_le (by omega)]
 rw [a1, List.take_append_of_le_length (by omega)] at e
 rw [← e, List.take_add]
theorem s_pour (p : Nat) (ao : Option Addr) (B : List Nat) (d : Nat) (ad : Option Addr) (D : List Nat) (h01 : Bits01 B) (h01d : Bits01 D) (hB : B.length + D.length ≤ 3000000000000) (w : World) (hw : WrB w p ao B) (hd : WrB w d ad D) :
  Calls Tryz.prog 71 #[.pointer (some ⟨p, 0, none⟩), .pointer (some ⟨d, 0, none⟩)] w fun e w' => e = .returned (.tuple #[]) ∧ ∃ ao', WrB w' p ao' (B ++ D) ∧ Stays (foot p ao) w w' ∧ Moved w.heap.size ao ao' := by
 have hsz : (textOf (pack D)).size ≤ 1000000000000000000 := by rw [textOf_size, pack_length]; omega
 have hs8 : D.length ≤ 8 * (textOf (pack D)).size := by rw [textOf_size, pack_length]; omega
 have kb := bytes_spec d w ad D h01d (by omega) hd
 have ko := of_spec (textOf (pack D)) hsz w
 have KL : Hid (∀ wx, Below w.heap.size w wx → Calls Tryz.prog 24 #[.pointer (some ⟨d, 0, none⟩)] wx fun e w' => e = .returned (.int .i64 (D.length : Int)) ∧ w' = wx) := fun wx hb => len_spec d wx ad D (hd.below hb)
 have HW : Hid (∀ wx, Below w.heap.size w wx → w.heap.size + 1 ≤ wx.heap.size → WB w p ao ao B (w.heap.size + 1) wx) := fun wx hb hs => WB.start hw hb _ hs
 clear hw hd
 go_enter Tryz.func71, Tryz.ntmps71
 go_wp2_with fail
 refine kb.mono ?_
 rintro e w1 ⟨rfl, hw1⟩
 subst hw1
 clear kb
 go_wp2_with fail
 refine ko.mono ?_
 rintro e w2 ⟨rfl, hrd, hb2⟩
 have HRD : Hid (Rd w2 w1.heap.size (textOf (pack D)) 0) := hrd
 have HB0 : Hid (WB w1 p ao ao B (w1.heap.size + 1) w2) := HW.out w2 hb2 (lt_of_block hrd)
 have kl := KL.out w2 hb2
 clear ko hrd hb2 KL HW
 go_wp2_with fail
 refine kl.mono ?_
 rintro e w3 ⟨rfl, hw3⟩
 subst hw3
 clear kl
 go_wp2_with fail
 go_loopw [5, 6, 7, 8, 18] (fun s5 s6 s7 s8 s18 wr => ∃ (k : Nat) (aj : Option Addr) (r : Nat), k + r = D.length ∧ s5 = .int .i64 (r : Int) ∧ WB w1 p ao aj (B ++ D.take k) (w1.heap.size + 1) wr ∧ Rd wr w1.heap.size (textOf (pack D)) k) (fun s5 _ _ _ _ _ => (intOf s5).toNat)
 case atStart => exact ⟨0, ao, D.length, by omega, rfl, by rw [List.take_zero, List.append_nil]; exact HB0.out, HRD.out⟩
 case round =>
  clear HB0 HRD
  obtain ⟨k, aj, r, hkr, rfl, hwb, hrd⟩ := hrel
  have HB : Hid (WB w1 p ao aj (B ++ D.take k) (w1.heap.size + 1) wr) := hwb
  have HR : Hid (Rd wr w1.heap.size (textOf (pack D)) k) := hrd
  have hlen : (B ++ D.take k).length ≤ 7000000000000 := by rw [List.length_append, List.length_take]; omega
  clear hwb hrd
  by_cases hr0 : 0 < r
  ·by_cases h64 : r ≤ 64
   ·obtain ⟨s1, s2, s3, s4, s5⟩ := pour_step D h01d k r (by omega) (by omega)
    have kg := get_all (textOf (pack D)) hsz k (by omega) wr w1.heap.size ((r : Nat) : Int) HR.out
    have HS3 : Hid (B ++ D.take (k + r) = (B ++ D.take k) ++ putB (getV (textOf (pack D)) k ((r : Nat) : Int)) ((r : Nat) : Int)) := by show _ = _; rw [s3, List.append_assoc]
    rw [s1, s2] at kg
    clear s1 s2 s3
    generalize getV (textOf (pack D)) k ((r : Nat) : Int) = V at *
    go_wp2_with fail
    refine kg.mono ?_
    rintro e w2 ⟨rfl, hr2, hst2⟩
    have HR2 : Hid (Rd w2 w1.heap.size (textOf (pack D)) (k + r)) := hr2
    have H2 : Hid (WB w1 p ao aj (B ++ D.take k) (w1.heap.size + 1) w2) := HB.out.look hst2 (Nat.le_refl _) (by omega)
    clear kg hr2 hst2 HB HR
    have kp := wput_all w2 aj (B ++ D.take k) p V ((r : Nat) : Int) s4 s5 (h01.append (h01d.take k)) hlen H2.out.wr
    go_wp2_with fail
    refine kp.mono ?_
    rintro e w3 ⟨rfl, ao3, hw3, hs3, hv3⟩
    have H3 : Hid (WB w1 p ao ao3 (B ++ D.take (k + r)) (w1.heap.size + 1) w3) := by rw [HS3.out]; exact H2.out.put hw3 hs3 hv3
    have HR3 : Hid (Rd w3 w1.heap.size (textOf (pack D)) (k + r)) := by
     have h := HR2.out
     unfold Rd at h
     show Rd _ _ _ _
     unfold Rd
     rw [H2.out.box hs3 _ (Nat.le_refl _) (by omega)]; exact h
    clear kp hw3 hs3 hv3 H2 HR2 HS3
    go_wp2_with fail
    go_roundw
    case rel => exact ⟨k + r, ao3, r - r, by omega, by go_num, H3.out, HR3.out⟩
    case measure => simp [intOf]; omega
   ·obtain ⟨s1, s2, s3, s4, s5⟩ := pour_step D h01d k 64 (by omega) (by omega)
    have kg := get_all (textOf (pack D)) hsz k (by omega) wr w1.heap.size ((64 : Nat) : Int) HR.out
    have HS3 : Hid (B ++ D.take (k + 64) = (B ++ D.take k) ++ putB (getV (textOf (pack D)) k ((64 : Nat) : Int)) ((64 : Nat) : Int)) := by show _ = _; rw [s3, List.append_assoc]
    rw [s1, s2] at kg
    clear s1 s2 s3
    generalize getV (textOf (pack D)) k ((64 : Nat) : Int) = V at *
    go_wp2_with fail
    refine kg.mono ?_
    rintro e w2 ⟨rfl, hr2, hst2⟩
    have HR2 : Hid (Rd w2 w1.heap.size (textOf (pack D)) (k + 64)) := hr2
    have H2 : Hid (WB w1 p ao aj (B ++ D.take k) (w1.heap.size + 1) w2) := HB.out.look hst2 (Nat.le_refl _) (by omega)
    clear kg hr2 hst2 HB HR
    have kp := wput_all w2 aj (B ++ D.take k) p V ((64 : Nat) : Int) s4 s5 (h01.append (h01d.take k)) hlen H2.out.wr
    go_wp2_with fail
    refine kp.mono ?_
    rintro e w3 ⟨rfl, ao3, hw3, hs3, hv3⟩
    have H3 : Hid (WB w1 p ao ao3 (B ++ D.take (k + 64)) (w1.heap.size + 1) w3) := by rw [HS3.out]; exact H2.out.put hw3 hs3 hv3
    have HR3 : Hid (Rd w3 w1.heap.size (textOf (pack D)) (k + 64)) := by
     have h := HR2.out
     unfold Rd at h
     show Rd _ _ _ _
     unfold Rd
     rw [H2.out.box hs3 _ (Nat.le_refl _) (by omega)]; exact h
    clear kp hw3 hs3 hv3 H2 HR2 HS3
    go_wp2_with fail
    go_roundw
    case rel => exact ⟨k + 64, ao3, r - 64, by omega, by go_num, H3.out, HR3.out⟩
    case measure => simp [intOf]; omega
  ·have hD : Hid (D.take k = D) := List.take_of_length_le (by omega)
   rw [hD.out] at HB
   go_wp2_with fail
   go_end0
   exact ⟨rfl, aj, HB.out.wr, HB.out.st, HB.out.mv⟩
end Go.Proofs.YthgpleelpeacjaaGreatDoor
