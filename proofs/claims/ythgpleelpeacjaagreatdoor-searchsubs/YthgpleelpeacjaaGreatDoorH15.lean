/- Own text. -/
import Derived.Deep.Cut
import Derived.Test.YthgpleelpeacjaaGreatDoorH14
set_option linter.unusedSimpArgs false
set_option linter.unusedVariables false
set_option maxRecDepth 20000
set_option maxHeartbeats 12800000
namespace Go.Proofs.YthgpleelpeacjaaGreatDoor
open Go.RowKit
theorem xzero10 (c : Rc) (hP : c.P.length ≤ 17592186044415) (hE : c.E.length ≤ 17592186044415) (pa : Option Addr) (pc : Nat) (ea : Option Addr) (ec : Nat) (bb : Bool) (hbb : bb = true ↔ c = R0) (w : World) : Calls Tryz.prog 195 #[riceV c pa pc ea ec] w fun e w' => e = .returned (.bool bb) ∧ Below w.heap.size w w' := by
 have k := fun wx => xsame0 c hP hE pa pc ea ec bb hbb wx
 have HA : Hid (Below w.heap.size w (w.alloc (.cells (riceC c pa pc ea ec) 25))) := (Below.refl _ _).alloc (Nat.le_refl _) _
 clear hbb hP hE
 go_enter Tryz.func195, Tryz.ntmps195
 go_wp2_with fail
 generalize hwa : World.alloc _ _ = wa at *
 clear hwa
 refine (k wa).mono ?_
 rintro e w2 ⟨rfl, hb2⟩
 have HL : Hid (Below w.heap.size w w2) := HA.out.trans (hb2.mono HA.out.size)
 clear hb2
 go_wp2_with fail
 go_ret
 exact ⟨rfl, HL.out⟩
theorem xchk_rng (q : Sb) (ca : Option Addr) (cc : Nat) (pa : Option Addr) (pc : Nat) (ea : Option Addr) (ec : Nat) (b v : Int) (hno : ¬ ((1 ≤ b ∧ b ≤ 65535) ∧ (1 ≤ v ∧ v ≤ 33) ∧ 0 ≤ q.w ∧ q.w < v)) (w : World) (hq : SbAt w q ca pa ea) : Calls Tryz.prog 148 #[subV q ca cc pa pc ea ec, .int .i64 b, .int .i64 v] w fun e w' => e = .returned (.int .i64 60) ∧ Below w.heap.size w w' := by
 clear hq
 by_cases g0 : b < 1
 ·clear hno
  have HA : Hid (SX w q ca cc pa pc ea ec (w.alloc (.cells (subC q ca cc pa pc ea ec) 27))) := SX.new w q ca cc pa pc ea ec
  go_enter Tryz.func148, Tryz.ntmps148
  go_upto_region 1 with fail
  generalize hwa : World.alloc _ _ = wa at *
  clear hwa
  obtain ⟨x0, x1, x2, x3, x4, x5, x6, x7, x8, x9⟩ := sub_cells HA.out.box
  go_wp2_with fail
  go_ret
  exact ⟨rfl, HA.out.below⟩
 ·skip
  by_cases g1 : 65535 < b
  ·clear hno
   have HA : Hid (SX w q ca cc pa pc ea ec (w.alloc (.cells (subC q ca cc pa pc ea ec) 27))) := SX.new w q ca cc pa pc ea ec
   go_enter Tryz.func148, Tryz.ntmps148
   go_upto_region 1 with fail
   generalize hwa : World.alloc _ _ = wa at *
   clear hwa
   obtain ⟨x0, x1, x2, x3, x4, x5, x6, x7, x8, x9⟩ := sub_cells HA.out.box
   go_wp2_with fail
   go_ret
   exact ⟨rfl, HA.out.below⟩
  ·skip
   by_cases g2 : v < 1
   ·clear hno
    have HA : Hid (SX w q ca cc pa pc ea ec (w.alloc (.cells (subC q ca cc pa pc ea ec) 27))) := SX.new w q ca cc pa pc ea ec
    go_enter Tryz.func148, Tryz.ntmps148
    go_upto_region 1 with fail
    generalize hwa : World.alloc _ _ = wa at *
    clear hwa
    obtain ⟨x0, x1, x2, x3, x4, x5, x6, x7, x8, x9⟩ := sub_cells HA.out.box
    go_wp2_with fail
    go_ret
    exact ⟨rfl, HA.out.below⟩
   ·skip
    by_cases g3 : 33 < v
    ·clear hno
     have HA : Hid (SX w q ca cc pa pc ea ec (w.alloc (.cells (subC q ca cc pa pc ea ec) 27))) := SX.new w q ca cc pa pc ea ec
     go_enter Tryz.func148, Tryz.ntmps148
     go_upto_region 1 with fail
     generalize hwa : World.alloc _ _ = wa at *
     clear hwa
     obtain ⟨x0, x1, x2, x3, x4, x5, x6, x7, x8, x9⟩ := sub_cells HA.out.box
     go_wp2_with fail
     go_ret
     exact ⟨rfl, HA.out.below⟩
    ·skip
     by_cases g4 : q.w < 0
     ·clear hno
      have HA : Hid (SX w q ca cc pa pc ea ec (w.alloc (.cells (subC q ca cc pa pc ea ec) 27))) := SX.new w q ca cc pa pc ea ec
      go_enter Tryz.func148, Tryz.ntmps148
      go_upto_region 1 with fail
      generalize hwa : World.alloc _ _ = wa at *
      clear hwa
      obtain ⟨x0, x1, x2, x3, x4, x5, x6, x7, x8, x9⟩ := sub_cells HA.out.box
      go_wp2_with fail
      go_ret
      exact ⟨rfl, HA.out.below⟩
     ·skip
      have g5 : v ≤ q.w := by omega
      clear hno
      have HA : Hid (SX w q ca cc pa pc ea ec (w.alloc (.cells (subC q ca cc pa pc ea ec) 27))) := SX.new w q ca cc pa pc ea ec
      go_enter Tryz.func148, Tryz.ntmps148
      go_upto_region 1 with fail
      generalize hwa : World.alloc _ _ = wa at *
      clear hwa
      obtain ⟨x0, x1, x2, x3, x4, x5, x6, x7, x8, x9⟩ := sub_cells HA.out.box
      go_wp2_with fail
      go_ret
      exact ⟨rfl, HA.out.below⟩
theorem xchk_k0 (q : Sb) (ca : Option Addr) (cc : Nat) (pa : Option Addr) (pc : Nat) (ea : Option Addr) (ec : Nat) (b v : Int) (hr : ((1 ≤ b ∧ b ≤ 65535) ∧ (1 ≤ v ∧ v ≤ 33) ∧ 0 ≤ q.w ∧ q.w < v)) (hk : q.k = 0) (r : Int) (HYES : Hid ((bareOk q ∧ q.o = 0 ∧ q.R = R0) → r = 0)) (HNO : Hid (¬ (bareOk q ∧ q.o = 0 ∧ q.R = R0) → r = 60)) (b8 : Bool) (HB8 : Hid (b8 = true ↔ bareOk q)) (w : World) (hq : SbAt w q ca pa ea) : Calls Tryz.prog 148 #[subV q ca cc pa pc ea ec, .int .i64 b, .int .i64 v] w fun e w' => e = .returned (.int .i64 r) ∧ Below w.heap.size w w' := by
 have HQ : Hid (SbAt w q ca pa ea) := hq
 have hCl := hq.C.len
 have HR : Hid (∀ wx, Below w.heap.size w wx → RcAt wx q.R pa ea) := fun wx h => hq.R.below h
 have KZ : Hid (∀ wx, Below w.heap.size w wx → ∀ bb : Bool, (bb = true ↔ q.R = R0) → Calls Tryz.prog 195 #[riceV q.R pa pc ea ec] wx fun e w' => e = .returned (.bool bb) ∧ Below wx.heap.size wx w') := fun wx _ bb hbb => xzero10 q.R hq.R.P.len hq.R.E.len pa pc ea ec bb hbb wx
 have KC : Hid (∀ wx, Below w.heap.size w wx → Calls Tryz.prog 196 #[riceV q.R pa pc ea ec, .int .i64 b, .int .i64 q.o] wx fun e w' => e = .returned (.int .i64 (chkN q.R b q.o)) ∧ Below wx.heap.size wx w') := fun wx h => xcheck_spec q.R b q.o pa pc ea ec wx (hq.R.below h)
 clear hq
 obtain ⟨⟨hb1, hb2⟩, ⟨hv1, hv2⟩, hw0, hw1⟩ := hr
 have hk0 : (q.k == 0) = true := by rw [beq_iff_eq]; omega
 have hk1 : (q.k == 1) = false := by rw [beq_eq_false_iff_ne]; omega
 have hk2 : (q.k == 2) = false := by rw [beq_eq_false_iff_ne]; omega
 have hk3 : (q.k == 3) = false := by rw [beq_eq_false_iff_ne]; omega
 clear hk
 have HA : Hid (SX w q ca cc pa pc ea ec (w.alloc (.cells (subC q ca cc pa pc ea ec) 27))) := SX.new w q ca cc pa pc ea ec
 go_enter Tryz.func148, Tryz.ntmps148
 go_upto_region 1 with fail
 generalize hwa : World.alloc _ _ = wa at *
 clear hwa
 obtain ⟨x0, x1, x2, x3, x4, x5, x6, x7, x8, x9⟩ := sub_cells HA.out.box
 go_upto_region 4 with fail
 go_cut [8] from 35 to 48 (fun s8 wx => s8 = .bool b8 ∧ wx = wa)
 case first =>
  by_cases g0 : ¬ q.p = 0
  ·have HV : Hid (b8 = false) := bb_no HB8.out (fun h => g0 h.1)
   have hb0 : (q.p == 0) = false := by rw [beq_eq_false_iff_ne]; omega
   go_wp2_with fail
   go_meet
   exact ⟨by rw [HV.out], rfl⟩
  ·skip
   by_cases g1 : ¬ q.h = 0
   ·have HV : Hid (b8 = false) := bb_no HB8.out (fun h => g1 h.2.1)
    have hb0 : (q.p == 0) = true := by rw [beq_iff_eq]; omega
    have hb1 : (q.h == 0) = false := by rw [beq_eq_false_iff_ne]; omega
    go_wp2_with fail
    go_meet
    exact ⟨by rw [HV.out], rfl⟩
   ·skip
    by_cases g2 : ¬ q.C.length = 0
    ·have HV : Hid (b8 = false) := bb_no HB8.out (fun h => g2 (by rw [h.2.2]; rfl))
     have hb0 : (q.p == 0) = true := by rw [beq_iff_eq]; omega
     have hb1 : (q.h == 0) = true := by rw [beq_iff_eq]; omega
     have hb2 : ((q.C.length : Int) == 0) = false := by rw [beq_eq_false_iff_ne]; omega
     go_wp2_with fail
     go_meet
     exact ⟨by rw [HV.out], rfl⟩
    ·skip
     have HV : Hid (b8 = true) := bb_yes HB8.out (⟨by omega, by omega, List.eq_nil_of_length_eq_zero (by omega)⟩)
     have hb0 : (q.p == 0) = true := by rw [beq_iff_eq]; omega
     have hb1 : (q.h == 0) = true := by rw [beq_iff_eq]; omega
     have hb2 : ((q.C.length : Int) == 0) = true := by rw [beq_iff_eq]; omega
     go_wp2_with fail
     go_meet
     exact ⟨by rw [HV.out], rfl⟩
 case rest =>
  obtain ⟨rfl, rfl⟩ := hcut
  cases hb : b8 with
  | false =>
   have HN : Hid (¬ bareOk q) := fun h => by have := HB8.out.2 h; rw [hb] at this; cases this
   clear hb
   go_wp2_with fail
   go_ret
   exact ⟨by rw [HNO.out (fun h => HN.out h.1)]; rfl, HA.out.below⟩
  | true =>
   have HY : Hid (bareOk q) := HB8.out.1 hb
   clear hb
   by_cases ho : q.o = 0
   ·have hbo : (q.o == 0) = true := by rw [ho]; rfl
    have HO : Hid (q.o = 0) := ho
    clear ho
    by_cases hz : q.R = R0
    ·have kz := KZ.out _ HA.out.below true (tt_iff hz)
     have HZ : Hid (q.R = R0) := hz
     clear hz
     go_wp2_with fail
     refine kz.mono ?_
     rintro e w2 ⟨rfl, hb⟩
     have HA2 : Hid (SX w q ca cc pa pc ea ec w2) := HA.out.next hb
     clear hb
     go_wp2_with fail
     go_ret
     exact ⟨by rw [HYES.out (⟨HY.out, HO.out, HZ.out⟩)]; rfl, HA2.out.below⟩
    ·have kz := KZ.out _ HA.out.below false (ff_iff hz)
     have HZ : Hid (¬ q.R = R0) := hz
     clear hz
     go_wp2_with fail
     refine kz.mono ?_
     rintro e w2 ⟨rfl, hb⟩
     have HA2 : Hid (SX w q ca cc pa pc ea ec w2) := HA.out.next hb
     clear hb
     go_wp2_with fail
     go_ret
     exact ⟨by rw [HNO.out (fun h => HZ.out h.2.2)]; rfl, HA2.out.below⟩
   ·have hbo : (q.o == 0) = false := by rw [beq_eq_false_iff_ne]; exact ho
    have HO : Hid (¬ q.o = 0) := ho
    clear ho
    go_wp2_with fail
    go_ret
    exact ⟨by rw [HNO.out (fun h => HO.out h.2.1)]; rfl, HA.out.below⟩
theorem xchk_k1 (q : Sb) (ca : Option Addr) (cc : Nat) (pa : Option Addr) (pc : Nat) (ea : Option Addr) (ec : Nat) (b v : Int) (hr : ((1 ≤ b ∧ b ≤ 65535) ∧ (1 ≤ v ∧ v ≤ 33) ∧ 0 ≤ q.w ∧ q.w < v)) (hk : q.k = 1) (r : Int) (HYES : Hid ((bareOk q ∧ q.o = 0 ∧ q.R = R0) → r = 0)) (HNO : Hid (¬ (bareOk q ∧ q.o = 0 ∧ q.R = R0) → r = 60)) (b8 : Bool) (HB8 : Hid (b8 = true ↔ bareOk q)) (w : World) (hq : SbAt w q ca pa ea) : Calls Tryz.prog 148 #[subV q ca cc pa pc ea ec, .int .i64 b, .int .i64 v] w fun e w' => e = .returned (.int .i64 r) ∧ Below w.heap.size w w' := by
 have HQ : Hid (SbAt w q ca pa ea) := hq
 have hCl := hq.C.len
 have HR : Hid (∀ wx, Below w.heap.size w wx → RcAt wx q.R pa ea) := fun wx h => hq.R.below h
 have KZ : Hid (∀ wx, Below w.heap.size w wx → ∀ bb : Bool, (bb = true ↔ q.R = R0) → Calls Tryz.prog 195 #[riceV q.R pa pc ea ec] wx fun e w' => e = .returned (.bool bb) ∧ Below wx.heap.size wx w') := fun wx _ bb hbb => xzero10 q.R hq.R.P.len hq.R.E.len pa pc ea ec bb hbb wx
 have KC : Hid (∀ wx, Below w.heap.size w wx → Calls Tryz.prog 196 #[riceV q.R pa pc ea ec, .int .i64 b, .int .i64 q.o] wx fun e w' => e = .returned (.int .i64 (chkN q.R b q.o)) ∧ Below wx.heap.size wx w') := fun wx h => xcheck_spec q.R b q.o pa pc ea ec wx (hq.R.below h)
 clear hq
 obtain ⟨⟨hb1, hb2⟩, ⟨hv1, hv2⟩, hw0, hw1⟩ := hr
 have hk0 : (q.k == 0) = false := by rw [beq_eq_false_iff_ne]; omega
 have hk1 : (q.k == 1) = true := by rw [beq_iff_eq]; omega
 have hk2 : (q.k == 2) = false := by rw [beq_eq_false_iff_ne]; omega
 have hk3 : (q.k == 3) = false := by rw [beq_eq_false_iff_ne]; omega
 clear hk
 have HA : Hid (SX w q ca cc pa pc ea ec (w.alloc (.cells (subC q ca cc pa pc ea ec) 27))) := SX.new w q ca cc pa pc ea ec
 go_enter Tryz.func148, Tryz.ntmps148
 go_upto_region 1 with fail
 generalize hwa : World.alloc _ _ = wa at *
 clear hwa
 obtain ⟨x0, x1, x2, x3, x4, x5, x6, x7, x8, x9⟩ := sub_cells HA.out.box
 go_upto_region 4 with fail
 go_cut [8] from 35 to 48 (fun s8 wx => s8 = .bool b8 ∧ wx = wa)
 case first =>
  by_cases g0 : ¬ q.p = 0
  ·have HV : Hid (b8 = false) := bb_no HB8.out (fun h => g0 h.1)
   have hb0 : (q.p == 0) = false := by rw [beq_eq_false_iff_ne]; omega
   go_wp2_with fail
   go_meet
   exact ⟨by rw [HV.out], rfl⟩
  ·skip
   by_cases g1 : ¬ q.h = 0
   ·have HV : Hid (b8 = false) := bb_no HB8.out (fun h => g1 h.2.1)
    have hb0 : (q.p == 0) = true := by rw [beq_iff_eq]; omega
    have hb1 : (q.h == 0) = false := by rw [beq_eq_false_iff_ne]; omega
    go_wp2_with fail
    go_meet
    exact ⟨by rw [HV.out], rfl⟩
   ·skip
    by_cases g2 : ¬ q.C.length = 0
    ·have HV : Hid (b8 = false) := bb_no HB8.out (fun h => g2 (by rw [h.2.2]; rfl))
     have hb0 : (q.p == 0) = true := by rw [beq_iff_eq]; omega
     have hb1 : (q.h == 0) = true := by rw [beq_iff_eq]; omega
     have hb2 : ((q.C.length : Int) == 0) = false := by rw [beq_eq_false_iff_ne]; omega
     go_wp2_with fail
     go_meet
     exact ⟨by rw [HV.out], rfl⟩
    ·skip
     have HV : Hid (b8 = true) := bb_yes HB8.out (⟨by omega, by omega, List.eq_nil_of_length_eq_zero (by omega)⟩)
     have hb0 : (q.p == 0) = true := by rw [beq_iff_eq]; omega
     have hb1 : (q.h == 0) = true := by rw [beq_iff_eq]; omega
     have hb2 : ((q.C.length : Int) == 0) = true := by rw [beq_iff_eq]; omega
     go_wp2_with fail
     go_meet
     exact ⟨by rw [HV.out], rfl⟩
 case rest =>
  obtain ⟨rfl, rfl⟩ := hcut
  cases hb : b8 with
  | false =>
   have HN : Hid (¬ bareOk q) := fun h => by have := HB8.out.2 h; rw [hb] at this; cases this
   clear hb
   go_wp2_with fail
   go_ret
   exact ⟨by rw [HNO.out (fun h => HN.out h.1)]; rfl, HA.out.below⟩
  | true =>
   have HY : Hid (bareOk q) := HB8.out.1 hb
   clear hb
   by_cases ho : q.o = 0
   ·have hbo : (q.o == 0) = true := by rw [ho]; rfl
    have HO : Hid (q.o = 0) := ho
    clear ho
    by_cases hz : q.R = R0
    ·have kz := KZ.out _ HA.out.below true (tt_iff hz)
     have HZ : Hid (q.R = R0) := hz
     clear hz
     go_wp2_with fail
     refine kz.mono ?_
     rintro e w2 ⟨rfl, hb⟩
     have HA2 : Hid (SX w q ca cc pa pc ea ec w2) := HA.out.next hb
     clear hb
     go_wp2_with fail
     go_ret
     exact ⟨by rw [HYES.out (⟨HY.out, HO.out, HZ.out⟩)]; rfl, HA2.out.below⟩
    ·have kz := KZ.out _ HA.out.below false (ff_iff hz)
     have HZ : Hid (¬ q.R = R0) := hz
     clear hz
     go_wp2_with fail
     refine kz.mono ?_
     rintro e w2 ⟨rfl, hb⟩
     have HA2 : Hid (SX w q ca cc pa pc ea ec w2) := HA.out.next hb
     clear hb
     go_wp2_with fail
     go_ret
     exact ⟨by rw [HNO.out (fun h => HZ.out h.2.2)]; rfl, HA2.out.below⟩
   ·have hbo : (q.o == 0) = false := by rw [beq_eq_false_iff_ne]; exact ho
    have HO : Hid (¬ q.o = 0) := ho
    clear ho
    go_wp2_with fail
    go_ret
    exact ⟨by rw [HNO.out (fun h => HO.out h.2.1)]; rfl, HA.out.below⟩
theorem xchk_k2 (q : Sb) (ca : Option Addr) (cc : Nat) (pa : Option Addr) (pc : Nat) (ea : Option Addr) (ec : Nat) (b v : Int) (hr : ((1 ≤ b ∧ b ≤ 65535) ∧ (1 ≤ v ∧ v ≤ 33) ∧ 0 ≤ q.w ∧ q.w < v)) (hk : q.k = 2) (r : Int) (HYES : Hid ((bareOk q ∧ 0 ≤ q.o ∧ q.o ≤ 4 ∧ q.o ≤ b ∧ chkOk q.R b q.o) → r = 0)) (HNO : Hid (¬ (bareOk q ∧ 0 ≤ q.o ∧ q.o ≤ 4 ∧ q.o ≤ b ∧ chkOk q.R b q.o) → r = 60)) (b8 : Bool) (HB8 : Hid (b8 = true ↔ bareOk q)) (w : World) (hq : SbAt w q ca pa ea) : Calls Tryz.prog 148 #[subV q ca cc pa pc ea ec, .int .i64 b, .int .i64 v] w fun e w' => e = .returned (.int .i64 r) ∧ Below w.heap.size w w' := by
 have HQ : Hid (SbAt w q ca pa ea) := hq
 have hCl := hq.C.len
 have HR : Hid (∀ wx, Below w.heap.size w wx → RcAt wx q.R pa ea) := fun wx h => hq.R.below h
 have KZ : Hid (∀ wx, Below w.heap.size w wx → ∀ bb : Bool, (bb = true ↔ q.R = R0) → Calls Tryz.prog 195 #[riceV q.R pa pc ea ec] wx fun e w' => e = .returned (.bool bb) ∧ Below wx.heap.size wx w') := fun wx _ bb hbb => xzero10 q.R hq.R.P.len hq.R.E.len pa pc ea ec bb hbb wx
 have KC : Hid (∀ wx, Below w.heap.size w wx → Calls Tryz.prog 196 #[riceV q.R pa pc ea ec, .int .i64 b, .int .i64 q.o] wx fun e w' => e = .returned (.int .i64 (chkN q.R b q.o)) ∧ Below wx.heap.size wx w') := fun wx h => xcheck_spec q.R b q.o pa pc ea ec wx (hq.R.below h)
 clear hq
 obtain ⟨⟨hb1, hb2⟩, ⟨hv1, hv2⟩, hw0, hw1⟩ := hr
 have hk0 : (q.k == 0) = false := by rw [beq_eq_false_iff_ne]; omega
 have hk1 : (q.k == 1) = false := by rw [beq_eq_false_iff_ne]; omega
 have hk2 : (q.k == 2) = true := by rw [beq_iff_eq]; omega
 have hk3 : (q.k == 3) = false := by rw [beq_eq_false_iff_ne]; omega
 clear hk
 have HA : Hid (SX w q ca cc pa pc ea ec (w.alloc (.cells (subC q ca cc pa pc ea ec) 27))) := SX.new w q ca cc pa pc ea ec
 go_enter Tryz.func148, Tryz.ntmps148
 go_upto_region 1 with fail
 generalize hwa : World.alloc _ _ = wa at *
 clear hwa
 obtain ⟨x0, x1, x2, x3, x4, x5, x6, x7, x8, x9⟩ := sub_cells HA.out.box
 go_upto_region 4 with fail
 go_cut [8] from 35 to 48 (fun s8 wx => s8 = .bool b8 ∧ wx = wa)
 case first =>
  by_cases g0 : ¬ q.p = 0
  ·have HV : Hid (b8 = false) := bb_no HB8.out (fun h => g0 h.1)
   have hb0 : (q.p == 0) = false := by rw [beq_eq_false_iff_ne]; omega
   go_wp2_with fail
   go_meet
   exact ⟨by rw [HV.out], rfl⟩
  ·skip
   by_cases g1 : ¬ q.h = 0
   ·have HV : Hid (b8 = false) := bb_no HB8.out (fun h => g1 h.2.1)
    have hb0 : (q.p == 0) = true := by rw [beq_iff_eq]; omega
    have hb1 : (q.h == 0) = false := by rw [beq_eq_false_iff_ne]; omega
    go_wp2_with fail
    go_meet
    exact ⟨by rw [HV.out], rfl⟩
   ·skip
    by_cases g2 : ¬ q.C.length = 0
    ·have HV : Hid (b8 = false) := bb_no HB8.out (fun h => g2 (by rw [h.2.2]; rfl))
     have hb0 : (q.p == 0) = true := by rw [beq_iff_eq]; omega
     have hb1 : (q.h == 0) = true := by rw [beq_iff_eq]; omega
     have hb2 : ((q.C.length : Int) == 0) = false := by rw [beq_eq_false_iff_ne]; omega
     go_wp2_with fail
     go_meet
     exact ⟨by rw [HV.out], rfl⟩
    ·skip
     have HV : Hid (b8 = true) := bb_yes HB8.out (⟨by omega, by omega, List.eq_nil_of_length_eq_zero (by omega)⟩)
     have hb0 : (q.p == 0) = true := by rw [beq_iff_eq]; omega
     have hb1 : (q.h == 0) = true := by rw [beq_iff_eq]; omega
     have hb2 : ((q.C.length : Int) == 0) = true := by rw [beq_iff_eq]; omega
     go_wp2_with fail
     go_meet
     exact ⟨by rw [HV.out], rfl⟩
 case rest =>
  obtain ⟨rfl, rfl⟩ := hcut
  cases hb : b8 with
  | false =>
   have HN : Hid (¬ bareOk q) := fun h => by have := HB8.out.2 h; rw [hb] at this; cases this
   clear hb
   go_wp2_with fail
   go_ret
   exact ⟨by rw [HNO.out (fun h => HN.out h.1)]; rfl, HA.out.below⟩
  | true =>
   have HY : Hid (bareOk q) := HB8.out.1 hb
   clear hb
   by_cases g0 : q.o < 0
   ·have HN : Hid (q.o < 0) := g0
    go_wp2_with fail
    go_ret
    exact ⟨by rw [HNO.out (fun h => by have h2 := HN.out; obtain ⟨_, h3, h4, h5, _⟩ := h; omega)]; rfl, HA.out.below⟩
   ·skip
    by_cases g1 : 4 < q.o
    ·have HN : Hid (4 < q.o) := g1
     go_wp2_with fail
     go_ret
     exact ⟨by rw [HNO.out (fun h => by have h2 := HN.out; obtain ⟨_, h3, h4, h5, _⟩ := h; omega)]; rfl, HA.out.below⟩
    ·skip
     by_cases g2 : b < q.o
     ·have HN : Hid (b < q.o) := g2
      go_wp2_with fail
      go_ret
      exact ⟨by rw [HNO.out (fun h => by have h2 := HN.out; obtain ⟨_, h3, h4, h5, _⟩ := h; omega)]; rfl, HA.out.below⟩
     ·skip
      by_cases g3 : ¬ chkOk q.R b q.o
      ·have kc := KC.out _ HA.out.below
       rw [chk_no g3] at kc
       have HZ : Hid (¬ chkOk q.R b q.o) := g3
       clear g3
       go_wp2_with fail
       refine kc.mono ?_
       rintro e w2 ⟨rfl, hb⟩
       have HA2 : Hid (SX w q ca cc pa pc ea ec w2) := HA.out.next hb
       clear hb x0 x1 x2 x3 x4 x5 x6 x7 x8 x9 HA
       obtain ⟨x0, x1, x2, x3, x4, x5, x6, x7, x8, x9⟩ := sub_cells HA2.out.box
       go_wp2_with fail
       go_ret
       exact ⟨by rw [HNO.out (fun h => HZ.out h.2.2.2.2)]; rfl, HA2.out.below⟩
      ·skip
       have HO : Hid (0 ≤ q.o ∧ q.o ≤ 4 ∧ q.o ≤ b) := ⟨by omega, by omega, by omega⟩
       have g4 := Classical.not_not.1 g3
       clear g3
       have kc := KC.out _ HA.out.below
       rw [chk_yes g4] at kc
       have HZ : Hid (chkOk q.R b q.o) := g4
       clear g4
       go_wp2_with fail
       refine kc.mono ?_
       rintro e w2 ⟨rfl, hb⟩
       have HA2 : Hid (SX w q ca cc pa pc ea ec w2) := HA.out.next hb
       clear hb x0 x1 x2 x3 x4 x5 x6 x7 x8 x9 HA
       obtain ⟨x0, x1, x2, x3, x4, x5, x6, x7, x8, x9⟩ := sub_cells HA2.out.box
       go_wp2_with fail
       go_ret
       exact ⟨by rw [HYES.out (⟨HY.out, HO.out.1, HO.out.2.1, HO.out.2.2, HZ.out⟩)]; rfl, HA2.out.below⟩
end Go.Proofs.YthgpleelpeacjaaGreatDoor
