/- Own text. -/
import Derived.Test.YthgpleelpeacjaaGreatDoorH15
set_option linter.unusedSimpArgs false
set_option linter.unusedVariables false
set_option maxRecDepth 20000
set_option maxHeartbeats 12800000
namespace Go.Proofs.YthgpleelpeacjaaGreatDoor
open Go.RowKit
theorem xchk_k3 (q : Sb) (ca : Option Addr) (cc : Nat) (pa : Option Addr) (pc : Nat) (ea : Option Addr) (ec : Nat) (b v : Int) (hr : ((1 ≤ b ∧ b ≤ 65535) ∧ (1 ≤ v ∧ v ≤ 33) ∧ 0 ≤ q.w ∧ q.w < v)) (hk : q.k = 3) (r : Int) (HYES : Hid ((1 ≤ q.o ∧ q.o ≤ 32 ∧ q.o ≤ b ∧ 1 ≤ q.p ∧ q.p ≤ 15 ∧ 0 ≤ q.h ∧ q.h ≤ 15 ∧ (q.C.length : Int) = q.o ∧ (∀ x ∈ q.C, sigE x q.p = 0) ∧ chkOk q.R b q.o) → r = 0)) (HNO : Hid (¬ (1 ≤ q.o ∧ q.o ≤ 32 ∧ q.o ≤ b ∧ 1 ≤ q.p ∧ q.p ≤ 15 ∧ 0 ≤ q.h ∧ q.h ≤ 15 ∧ (q.C.length : Int) = q.o ∧ (∀ x ∈ q.C, sigE x q.p = 0) ∧ chkOk q.R b q.o) → r = 60)) (b8 : Bool) (HB8 : Hid (b8 = true ↔ bareOk q)) (w : World) (hq : SbAt w q ca pa ea) : Calls Tryz.prog 148 #[subV q ca cc pa pc ea ec, .int .i64 b, .int .i64 v] w fun e w' => e = .returned (.int .i64 r) ∧ Below w.heap.size w w' := by
 have HQ : Hid (SbAt w q ca pa ea) := hq
 have hCl := hq.C.len
 have HR : Hid (∀ wx, Below w.heap.size w wx → RcAt wx q.R pa ea) := fun wx h => hq.R.below h
 have KZ : Hid (∀ wx, Below w.heap.size w wx → ∀ bb : Bool, (bb = true ↔ q.R = R0) → Calls Tryz.prog 195 #[riceV q.R pa pc ea ec] wx fun e w' => e = .returned (.bool bb) ∧ Below wx.heap.size wx w') := fun wx _ bb hbb => xzero10 q.R hq.R.P.len hq.R.E.len pa pc ea ec bb hbb wx
 have KC : Hid (∀ wx, Below w.heap.size w wx → Calls Tryz.prog 196 #[riceV q.R pa pc ea ec, .int .i64 b, .int .i64 q.o] wx fun e w' => e = .returned (.int .i64 (chkN q.R b q.o)) ∧ Below wx.heap.size wx w') := fun wx h => xcheck_spec q.R b q.o pa pc ea ec wx (hq.R.below h)
 clear hq
 obtain ⟨⟨hb1, hb2⟩, ⟨hv1, hv2⟩, hw0, hw1⟩ := hr
 have hk0 : (q.k == 0) = false := by rw [beq_eq_false_iff_ne]; omega
 have hk1 : (q.k == 1) = false := by rw [beq_eq_false_iff_ne]; omega
 have hk2 : (q.k == 2) = false := by rw [beq_eq_false_iff_ne]; omega
 have hk3 : (q.k == 3) = true := by rw [beq_iff_eq]; omega
 clear hk
 have HA : Hid (SX w q ca cc pa pc ea ec (w.alloc (.cells (subC q ca cc pa pc ea ec) 27))) := SX.new w q ca cc pa pc ea ec
 go_enter Tryz.func148, Tryz.ntmps148
 go_upto_region 1 with fail
 generalize hwa : World.alloc _ _ = wa at *
 clear hwa
 obtain ⟨x0, x1, x2, x3, x4, x5, x6, x7, x8, x9⟩ := sub_cells HA.out.box
 go_upto_region 4 with fail
 go_cut [8] from 35 to 48 (fun s8 wx => s8 = .bool b8 ∧ wx = wa)
 case first =>
  by_cases g0 : ¬ q.p = 0
  ·have HV : Hid (b8 = false) := bb_no HB8.out (fun h => g0 h.1)
   have hb0 : (q.p == 0) = false := by rw [beq_eq_false_iff_ne]; omega
   go_wp2_with fail
   go_meet
   exact ⟨by rw [HV.out], rfl⟩
  ·skip
   by_cases g1 : ¬ q.h = 0
   ·have HV : Hid (b8 = false) := bb_no HB8.out (fun h => g1 h.2.1)
    have hb0 : (q.p == 0) = true := by rw [beq_iff_eq]; omega
    have hb1 : (q.h == 0) = false := by rw [beq_eq_false_iff_ne]; omega
    go_wp2_with fail
    go_meet
    exact ⟨by rw [HV.out], rfl⟩
   ·skip
    by_cases g2 : ¬ q.C.length = 0
    ·have HV : Hid (b8 = false) := bb_no HB8.out (fun h => g2 (by rw [h.2.2]; rfl))
     have hb0 : (q.p == 0) = true := by rw [beq_iff_eq]; omega
     have hb1 : (q.h == 0) = true := by rw [beq_iff_eq]; omega
     have hb2 : ((q.C.length : Int) == 0) = false := by rw [beq_eq_false_iff_ne]; omega
     go_wp2_with fail
     go_meet
     exact ⟨by rw [HV.out], rfl⟩
    ·skip
     have HV : Hid (b8 = true) := bb_yes HB8.out (⟨by omega, by omega, List.eq_nil_of_length_eq_zero (by omega)⟩)
     have hb0 : (q.p == 0) = true := by rw [beq_iff_eq]; omega
     have hb1 : (q.h == 0) = true := by rw [beq_iff_eq]; omega
     have hb2 : ((q.C.length : Int) == 0) = true := by rw [beq_iff_eq]; omega
     go_wp2_with fail
     go_meet
     exact ⟨by rw [HV.out], rfl⟩
 case rest =>
  obtain ⟨rfl, rfl⟩ := hcut
  by_cases g0 : q.o < 1
  ·have HN : Hid (q.o < 1) := g0
   go_wp2_with fail
   go_loopw [7, 9] (fun s7 s9 wr => s7 = .bool false ∧ s9 = .int .i64 0 ∧ SX w q ca cc pa pc ea ec wr) (fun _ _ _ => 0)
   case atStart => exact ⟨rfl, rfl, HA.out⟩
   case round =>
    clear HA x0 x1 x2 x3 x4 x5 x6 x7 x8 x9
    obtain ⟨rfl, rfl, hsx⟩ := hrel
    have HS : Hid (SX w q ca cc pa pc ea ec wr) := hsx
    obtain ⟨x0, x1, x2, x3, x4, x5, x6, x7, x8, x9⟩ := sub_cells hsx.box
    clear hsx
    by_cases hlt : 0 < q.C.length
    all_goals
     go_wp2_with fail
     go_ret
     exact ⟨by rw [HNO.out (fun h => by have h2 := HN.out; obtain ⟨a1, a2, a3, a4, a5, a6, a7, _, _, _⟩ := h; omega)]; rfl, HS.out.below⟩
  ·skip
   by_cases g1 : 32 < q.o
   ·have HN : Hid (32 < q.o) := g1
    go_wp2_with fail
    go_loopw [7, 9] (fun s7 s9 wr => s7 = .bool false ∧ s9 = .int .i64 0 ∧ SX w q ca cc pa pc ea ec wr) (fun _ _ _ => 0)
    case atStart => exact ⟨rfl, rfl, HA.out⟩
    case round =>
     clear HA x0 x1 x2 x3 x4 x5 x6 x7 x8 x9
     obtain ⟨rfl, rfl, hsx⟩ := hrel
     have HS : Hid (SX w q ca cc pa pc ea ec wr) := hsx
     obtain ⟨x0, x1, x2, x3, x4, x5, x6, x7, x8, x9⟩ := sub_cells hsx.box
     clear hsx
     by_cases hlt : 0 < q.C.length
     all_goals
      go_wp2_with fail
      go_ret
      exact ⟨by rw [HNO.out (fun h => by have h2 := HN.out; obtain ⟨a1, a2, a3, a4, a5, a6, a7, _, _, _⟩ := h; omega)]; rfl, HS.out.below⟩
   ·skip
    by_cases g2 : b < q.o
    ·have HN : Hid (b < q.o) := g2
     go_wp2_with fail
     go_loopw [7, 9] (fun s7 s9 wr => s7 = .bool false ∧ s9 = .int .i64 0 ∧ SX w q ca cc pa pc ea ec wr) (fun _ _ _ => 0)
     case atStart => exact ⟨rfl, rfl, HA.out⟩
     case round =>
      clear HA x0 x1 x2 x3 x4 x5 x6 x7 x8 x9
      obtain ⟨rfl, rfl, hsx⟩ := hrel
      have HS : Hid (SX w q ca cc pa pc ea ec wr) := hsx
      obtain ⟨x0, x1, x2, x3, x4, x5, x6, x7, x8, x9⟩ := sub_cells hsx.box
      clear hsx
      by_cases hlt : 0 < q.C.length
      all_goals
       go_wp2_with fail
       go_ret
       exact ⟨by rw [HNO.out (fun h => by have h2 := HN.out; obtain ⟨a1, a2, a3, a4, a5, a6, a7, _, _, _⟩ := h; omega)]; rfl, HS.out.below⟩
    ·skip
     by_cases g3 : q.p < 1
     ·have HN : Hid (q.p < 1) := g3
      go_wp2_with fail
      go_loopw [7, 9] (fun s7 s9 wr => s7 = .bool false ∧ s9 = .int .i64 0 ∧ SX w q ca cc pa pc ea ec wr) (fun _ _ _ => 0)
      case atStart => exact ⟨rfl, rfl, HA.out⟩
      case round =>
       clear HA x0 x1 x2 x3 x4 x5 x6 x7 x8 x9
       obtain ⟨rfl, rfl, hsx⟩ := hrel
       have HS : Hid (SX w q ca cc pa pc ea ec wr) := hsx
       obtain ⟨x0, x1, x2, x3, x4, x5, x6, x7, x8, x9⟩ := sub_cells hsx.box
       clear hsx
       by_cases hlt : 0 < q.C.length
       all_goals
        go_wp2_with fail
        go_ret
        exact ⟨by rw [HNO.out (fun h => by have h2 := HN.out; obtain ⟨a1, a2, a3, a4, a5, a6, a7, _, _, _⟩ := h; omega)]; rfl, HS.out.below⟩
     ·skip
      by_cases g4 : 15 < q.p
      ·have HN : Hid (15 < q.p) := g4
       go_wp2_with fail
       go_loopw [7, 9] (fun s7 s9 wr => s7 = .bool false ∧ s9 = .int .i64 0 ∧ SX w q ca cc pa pc ea ec wr) (fun _ _ _ => 0)
       case atStart => exact ⟨rfl, rfl, HA.out⟩
       case round =>
        clear HA x0 x1 x2 x3 x4 x5 x6 x7 x8 x9
        obtain ⟨rfl, rfl, hsx⟩ := hrel
        have HS : Hid (SX w q ca cc pa pc ea ec wr) := hsx
        obtain ⟨x0, x1, x2, x3, x4, x5, x6, x7, x8, x9⟩ := sub_cells hsx.box
        clear hsx
        by_cases hlt : 0 < q.C.length
        all_goals
         go_wp2_with fail
         go_ret
         exact ⟨by rw [HNO.out (fun h => by have h2 := HN.out; obtain ⟨a1, a2, a3, a4, a5, a6, a7, _, _, _⟩ := h; omega)]; rfl, HS.out.below⟩
      ·skip
       by_cases g5 : q.h < 0
       ·have HN : Hid (q.h < 0) := g5
        go_wp2_with fail
        go_loopw [7, 9] (fun s7 s9 wr => s7 = .bool false ∧ s9 = .int .i64 0 ∧ SX w q ca cc pa pc ea ec wr) (fun _ _ _ => 0)
        case atStart => exact ⟨rfl, rfl, HA.out⟩
        case round =>
         clear HA x0 x1 x2 x3 x4 x5 x6 x7 x8 x9
         obtain ⟨rfl, rfl, hsx⟩ := hrel
         have HS : Hid (SX w q ca cc pa pc ea ec wr) := hsx
         obtain ⟨x0, x1, x2, x3, x4, x5, x6, x7, x8, x9⟩ := sub_cells hsx.box
         clear hsx
         by_cases hlt : 0 < q.C.length
         all_goals
          go_wp2_with fail
          go_ret
          exact ⟨by rw [HNO.out (fun h => by have h2 := HN.out; obtain ⟨a1, a2, a3, a4, a5, a6, a7, _, _, _⟩ := h; omega)]; rfl, HS.out.below⟩
       ·skip
        by_cases g6 : 15 < q.h
        ·have HN : Hid (15 < q.h) := g6
         go_wp2_with fail
         go_loopw [7, 9] (fun s7 s9 wr => s7 = .bool false ∧ s9 = .int .i64 0 ∧ SX w q ca cc pa pc ea ec wr) (fun _ _ _ => 0)
         case atStart => exact ⟨rfl, rfl, HA.out⟩
         case round =>
          clear HA x0 x1 x2 x3 x4 x5 x6 x7 x8 x9
          obtain ⟨rfl, rfl, hsx⟩ := hrel
          have HS : Hid (SX w q ca cc pa pc ea ec wr) := hsx
          obtain ⟨x0, x1, x2, x3, x4, x5, x6, x7, x8, x9⟩ := sub_cells hsx.box
          clear hsx
          by_cases hlt : 0 < q.C.length
          all_goals
           go_wp2_with fail
           go_ret
           exact ⟨by rw [HNO.out (fun h => by have h2 := HN.out; obtain ⟨a1, a2, a3, a4, a5, a6, a7, _, _, _⟩ := h; omega)]; rfl, HS.out.below⟩
        ·skip
         by_cases g7 : ¬ (q.C.length : Int) = q.o
         ·have hbl : ((q.C.length : Int) == q.o) = false := by rw [beq_eq_false_iff_ne]; exact g7
          have HN : Hid (¬ (q.C.length : Int) = q.o) := g7
          clear g7
          go_wp2_with fail
          go_loopw [7, 9] (fun s7 s9 wr => s7 = .bool false ∧ s9 = .int .i64 0 ∧ SX w q ca cc pa pc ea ec wr) (fun _ _ _ => 0)
          case atStart => exact ⟨rfl, rfl, HA.out⟩
          case round =>
           clear HA x0 x1 x2 x3 x4 x5 x6 x7 x8 x9
           obtain ⟨rfl, rfl, hsx⟩ := hrel
           have HS : Hid (SX w q ca cc pa pc ea ec wr) := hsx
           obtain ⟨x0, x1, x2, x3, x4, x5, x6, x7, x8, x9⟩ := sub_cells hsx.box
           clear hsx
           by_cases hlt : 0 < q.C.length
           all_goals
            go_wp2_with fail
            go_ret
            exact ⟨by rw [HNO.out (fun h => by have h2 := HN.out; obtain ⟨a1, a2, a3, a4, a5, a6, a7, a8, _, _⟩ := h; exact h2 a8)]; rfl, HS.out.below⟩
         ·skip
          by_cases g8 : ¬ chkOk q.R b q.o
          ·have hbl : ((q.C.length : Int) == q.o) = true := by rw [beq_iff_eq]; exact Classical.not_not.1 g7
           clear g7
           have kc := KC.out _ HA.out.below
           rw [chk_no g8] at kc
           have HZ : Hid (¬ chkOk q.R b q.o) := g8
           clear g8
           go_wp2_with fail
           refine kc.mono ?_
           rintro e w2 ⟨rfl, hb⟩
           have HA2 : Hid (SX w q ca cc pa pc ea ec w2) := HA.out.next hb
           clear hb x0 x1 x2 x3 x4 x5 x6 x7 x8 x9 HA
           obtain ⟨x0, x1, x2, x3, x4, x5, x6, x7, x8, x9⟩ := sub_cells HA2.out.box
           go_wp2_with fail
           go_loopw [7, 9] (fun s7 s9 wr => s7 = .bool false ∧ s9 = .int .i64 0 ∧ SX w q ca cc pa pc ea ec wr) (fun _ _ _ => 0)
           case atStart => exact ⟨rfl, rfl, HA2.out⟩
           case round =>
            clear HA2 x0 x1 x2 x3 x4 x5 x6 x7 x8 x9
            obtain ⟨rfl, rfl, hsx⟩ := hrel
            have HS : Hid (SX w q ca cc pa pc ea ec wr) := hsx
            obtain ⟨x0, x1, x2, x3, x4, x5, x6, x7, x8, x9⟩ := sub_cells hsx.box
            clear hsx
            by_cases hlt : 0 < q.C.length
            all_goals
             go_wp2_with fail
             go_ret
             exact ⟨by rw [HNO.out (fun h => by have h2 := HZ.out; obtain ⟨a1, a2, a3, a4, a5, a6, a7, a8, _, a10⟩ := h; exact h2 a10)]; rfl, HS.out.below⟩
          ·skip
           have hbl : ((q.C.length : Int) == q.o) = true := by rw [beq_iff_eq]; exact Classical.not_not.1 g7
           have HO : Hid (1 ≤ q.o ∧ q.o ≤ 32 ∧ q.o ≤ b ∧ 1 ≤ q.p ∧ q.p ≤ 15 ∧ 0 ≤ q.h ∧ q.h ≤ 15 ∧ (q.C.length : Int) = q.o) := ⟨by omega, by omega, by omega, by omega, by omega, by omega, by omega, by omega⟩
           have g9 := Classical.not_not.1 g8
           clear g7 g8
           have kc := KC.out _ HA.out.below
           rw [chk_yes g9] at kc
           have HZ : Hid (chkOk q.R b q.o) := g9
           clear g9
           go_wp2_with fail
           refine kc.mono ?_
           rintro e w2 ⟨rfl, hb⟩
           have HA2 : Hid (SX w q ca cc pa pc ea ec w2) := HA.out.next hb
           clear hb x0 x1 x2 x3 x4 x5 x6 x7 x8 x9 HA
           obtain ⟨x0, x1, x2, x3, x4, x5, x6, x7, x8, x9⟩ := sub_cells HA2.out.box
           have KF : Hid (∀ (j : Nat) wx, j < q.C.length → Calls Tryz.prog 29 #[.int .i64 (q.C.getD j 0), .int .i64 q.p] wx fun e w' => e = .returned (.bool (decide (sigE (q.C.getD j 0) q.p = 0))) ∧ w' = wx) := fun j wx hj => by
            have hn := HQ.out.C.num _ (getD_mem q.C j hj)
            have h1 := HO.out.2.2.2.1
            have h2 := HO.out.2.2.2.2.1
            have e : ((q.p.toNat : Nat) : Int) = q.p := by omega
            have k := fits_in (q.C.getD j 0) hn.1 hn.2 q.p.toNat (by omega) (by omega) wx
            rw [e] at k
            refine k.mono fun en w' hh => ⟨by rw [hh.1]; congr 2; exact decide_eq_decide.2 ⟨fun h => (sigE_iff _ _).2 ⟨h1, by omega, h.1, h.2⟩, fun h => ((sigE_iff _ _).1 h).2.2⟩, hh.2⟩
           go_wp2_with fail
           go_loopw [7, 9] (fun s7 s9 wr => ∃ (i : Nat) (ok : Bool), i ≤ q.C.length ∧ s9 = .int .i64 (i : Int) ∧ s7 = .bool ok ∧ (ok = true ↔ ∀ j, j < i → sigE (q.C.getD j 0) q.p = 0) ∧ SX w q ca cc pa pc ea ec wr) (fun _ s9 _ => q.C.length - (intOf s9).toNat)
           case atStart => exact ⟨0, true, Nat.zero_le _, rfl, rfl, ⟨fun _ j hj => absurd hj (Nat.not_lt_zero _), fun _ => rfl⟩, HA2.out⟩
           case round =>
            clear HA2 x0 x1 x2 x3 x4 x5 x6 x7 x8 x9
            obtain ⟨i, ok, hi, rfl, rfl, hok, hsx⟩ := hrel
            have HS : Hid (SX w q ca cc pa pc ea ec wr) := hsx
            have HOK : Hid (ok = true ↔ ∀ j, j < i → sigE (q.C.getD j 0) q.p = 0) := hok
            obtain ⟨x0, x1, x2, x3, x4, x5, x6, x7, x8, x9⟩ := sub_cells hsx.box
            clear hok hsx
            cases hbo : ok with
            | false =>
             have HN : Hid (¬ ∀ x ∈ q.C, sigE x q.p = 0) := fun h => by
              have := HOK.out.2 (fun j hj => h _ (getD_mem q.C j (by omega)))
              rw [hbo] at this; cases this
             clear hbo
             by_cases hlt : i < q.C.length
             ·skip
              go_wp2_with fail
              go_ret
              exact ⟨by rw [HNO.out (fun h => by have h2 := HN.out; obtain ⟨a1, a2, a3, a4, a5, a6, a7, a8, a9, _⟩ := h; exact h2 a9)]; rfl, HS.out.below⟩
             ·skip
              go_wp2_with fail
              go_ret
              exact ⟨by rw [HNO.out (fun h => by have h2 := HN.out; obtain ⟨a1, a2, a3, a4, a5, a6, a7, a8, a9, _⟩ := h; exact h2 a9)]; rfl, HS.out.below⟩
            | true =>
             have HT : Hid (∀ j, j < i → sigE (q.C.getD j 0) q.p = 0) := HOK.out.1 hbo
             clear hbo HOK
             by_cases hlt : i < q.C.length
             ·obtain ⟨bc, oc, e1⟩ := HQ.out.C.addr (by omega)
              subst e1
              have HCL : Hid (∀ wx, Hid (SX w q (some ⟨bc, oc, none⟩) cc pa pc ea ec wx) → wx.cell? ⟨w.heap.size, 5, none⟩ = some (.slice (some ⟨bc, oc, none⟩) q.C.length cc) ∧ wx.cell? ⟨w.heap.size, 3, none⟩ = some (.int .i64 q.p) ∧ wx.cell? ⟨bc, oc + i, none⟩ = some (.int .i64 (q.C.getD i 0))) := fun wx hx => by
               obtain ⟨x0, x1, x2, x3, x4, x5, x6, x7, x8, x9⟩ := sub_cells hx.out.box
               exact ⟨x5, x3, (HQ.out.C.below hx.out.below).get i hlt⟩
              have HD : Hid (SX w q (some ⟨bc, oc, none⟩) cc pa pc ea ec wr.drew) := HS.out.next ⟨rfl, rfl, rfl, Nat.le_refl _, fun _ _ => rfl⟩
              have kf := fun wx => KF.out i wx hlt
              have HNX : Hid (decide (sigE (q.C.getD i 0) q.p = 0) = true ↔ ∀ j, j < i + 1 → sigE (q.C.getD j 0) q.p = 0) := by
               rw [Hid, decide_eq_true_iff]
               refine ⟨fun h j hj => ?_, fun h => h i (by omega)⟩
               by_cases e : j = i
               ·rw [e]; exact h
               ·exact HT.out j (by omega)
              generalize decide (sigE (q.C.getD i 0) q.p = 0) = ok2 at *
              generalize q.C.getD i 0 = cv at *
              go_wp2_with fail
              clear x0 x1 x2 x3 x4 x5 x6 x7 x8 x9 HS
              go_region_held3 (fun wx => wx.cell? ⟨w.heap.size, 5, none⟩ = some (.slice (some ⟨bc, oc, none⟩) q.C.length cc) ∧ wx.cell? ⟨w.heap.size, 3, none⟩ = some (.int .i64 q.p) ∧ wx.cell? ⟨bc, oc + i, none⟩ = some (.int .i64 cv)) (exact HCL.out _ (by assumption))
               ((go_at_call 29; refine (kf _).mono ?_; rintro e w8 ⟨rfl, hw8⟩; subst hw8))
              go_wp2_with fail
              go_roundw
              case rel => exact ⟨i + 1, ok2, by omega, by go_num, rfl, HNX.out, HD.out⟩
              case measure => simp [intOf]; omega
             ·have HAL : Hid (∀ x ∈ q.C, sigE x q.p = 0) := fun x hx => by
               obtain ⟨j, hj, e⟩ := List.getElem_of_mem hx
               have h := HT.out j (by omega)
               rw [List.getD_eq_getElem?_getD, List.getElem?_eq_getElem hj] at h
               rw [← e]; exact h
              go_wp2_with fail
              go_ret
              exact ⟨by rw [HYES.out (⟨HO.out.1, HO.out.2.1, HO.out.2.2.1, HO.out.2.2.2.1, HO.out.2.2.2.2.1, HO.out.2.2.2.2.2.1, HO.out.2.2.2.2.2.2.1, HO.out.2.2.2.2.2.2.2, HAL.out, HZ.out⟩)]; rfl, HS.out.below⟩
theorem xchk_k9 (q : Sb) (ca : Option Addr) (cc : Nat) (pa : Option Addr) (pc : Nat) (ea : Option Addr) (ec : Nat) (b v : Int) (hr : ((1 ≤ b ∧ b ≤ 65535) ∧ (1 ≤ v ∧ v ≤ 33) ∧ 0 ≤ q.w ∧ q.w < v)) (hk : ¬ q.k = 0 ∧ ¬ q.k = 1 ∧ ¬ q.k = 2 ∧ ¬ q.k = 3) (b8 : Bool) (HB8 : Hid (b8 = true ↔ bareOk q)) (w : World) (hq : SbAt w q ca pa ea) : Calls Tryz.prog 148 #[subV q ca cc pa pc ea ec, .int .i64 b, .int .i64 v] w fun e w' => e = .returned (.int .i64 60) ∧ Below w.heap.size w w' := by
 clear hq
 obtain ⟨⟨hb1, hb2⟩, ⟨hv1, hv2⟩, hw0, hw1⟩ := hr
 obtain ⟨e0, e1, e2, e3⟩ := hk
 have hk0 : (q.k == 0) = false := by rw [beq_eq_false_iff_ne]; omega
 have hk1 : (q.k == 1) = false := by rw [beq_eq_false_iff_ne]; omega
 have hk2 : (q.k == 2) = false := by rw [beq_eq_false_iff_ne]; omega
 have hk3 : (q.k == 3) = false := by rw [beq_eq_false_iff_ne]; omega
 have HA : Hid (SX w q ca cc pa pc ea ec (w.alloc (.cells (subC q ca cc pa pc ea ec) 27))) := SX.new w q ca cc pa pc ea ec
 go_enter Tryz.func148, Tryz.ntmps148
 go_upto_region 1 with fail
 generalize hwa : World.alloc _ _ = wa at *
 clear hwa
 obtain ⟨x0, x1, x2, x3, x4, x5, x6, x7, x8, x9⟩ := sub_cells HA.out.box
 go_upto_region 4 with fail
 go_cut [8] from 35 to 48 (fun s8 wx => s8 = .bool b8 ∧ wx = wa)
 case first =>
  by_cases g0 : ¬ q.p = 0
  ·have HV : Hid (b8 = false) := bb_no HB8.out (fun h => g0 h.1)
   have hb0 : (q.p == 0) = false := by rw [beq_eq_false_iff_ne]; omega
   go_wp2_with fail
   go_meet
   exact ⟨by rw [HV.out], rfl⟩
  ·skip
   by_cases g1 : ¬ q.h = 0
   ·have HV : Hid (b8 = false) := bb_no HB8.out (fun h => g1 h.2.1)
    have hb0 : (q.p == 0) = true := by rw [beq_iff_eq]; omega
    have hb1 : (q.h == 0) = false := by rw [beq_eq_false_iff_ne]; omega
    go_wp2_with fail
    go_meet
    exact ⟨by rw [HV.out], rfl⟩
   ·skip
    by_cases g2 : ¬ q.C.length = 0
    ·have HV : Hid (b8 = false) := bb_no HB8.out (fun h => g2 (by rw [h.2.2]; rfl))
     have hb0 : (q.p == 0) = true := by rw [beq_iff_eq]; omega
     have hb1 : (q.h == 0) = true := by rw [beq_iff_eq]; omega
     have hb2 : ((q.C.length : Int) == 0) = false := by rw [beq_eq_false_iff_ne]; omega
     go_wp2_with fail
     go_meet
     exact ⟨by rw [HV.out], rfl⟩
    ·skip
     have HV : Hid (b8 = true) := bb_yes HB8.out (⟨by omega, by omega, List.eq_nil_of_length_eq_zero (by omega)⟩)
     have hb0 : (q.p == 0) = true := by rw [beq_iff_eq]; omega
     have hb1 : (q.h == 0) = true := by rw [beq_iff_eq]; omega
     have hb2 : ((q.C.length : Int) == 0) = true := by rw [beq_iff_eq]; omega
     go_wp2_with fail
     go_meet
     exact ⟨by rw [HV.out], rfl⟩
 case rest =>
  obtain ⟨rfl, rfl⟩ := hcut
  go_wp2_with fail
  go_ret
  exact ⟨rfl, HA.out.below⟩
theorem xchk10 (q : Sb) (ca : Option Addr) (cc : Nat) (pa : Option Addr) (pc : Nat) (ea : Option Addr) (ec : Nat) (b v r : Int) (hyes : subOk q b v → r = 0) (hno : ¬ subOk q b v → r = 60) (w : World) (hq : SbAt w q ca pa ea) : Calls Tryz.prog 148 #[subV q ca cc pa pc ea ec, .int .i64 b, .int .i64 v] w fun e w' => e = .returned (.int .i64 r) ∧ Below w.heap.size w w' := by
 by_cases hr : ((1 ≤ b ∧ b ≤ 65535) ∧ (1 ≤ v ∧ v ≤ 33) ∧ 0 ≤ q.w ∧ q.w < v)
 case neg =>
  rw [hno (fun h => hr ⟨h.1, h.2.1, h.2.2.1⟩)]
  exact xchk_rng q ca cc pa pc ea ec b v hr w hq
 obtain ⟨b8, hb8⟩ : ∃ b8 : Bool, b8 = true ↔ bareOk q := ⟨decide (bareOk q), decide_eq_true_iff⟩
 by_cases k0 : q.k = 0
 ·exact xchk_k0 q ca cc pa pc ea ec b v hr k0 r (fun h => hyes ⟨hr.1, hr.2.1, hr.2.2, .inl ⟨.inl k0, h.1, h.2⟩⟩) (fun h => hno (fun g => h (by
   rcases g.2.2.2 with g | g | g
   ·exact ⟨g.2.1, g.2.2⟩
   ·have := g.1; omega
   ·have := g.1; omega))) b8 hb8 w hq
 by_cases k1 : q.k = 1
 ·exact xchk_k1 q ca cc pa pc ea ec b v hr k1 r (fun h => hyes ⟨hr.1, hr.2.1, hr.2.2, .inl ⟨.inr k1, h.1, h.2⟩⟩) (fun h => hno (fun g => h (by
   rcases g.2.2.2 with g | g | g
   ·exact ⟨g.2.1, g.2.2⟩
   ·have := g.1; omega
   ·have := g.1; omega))) b8 hb8 w hq
 by_cases k2 : q.k = 2
 ·exact xchk_k2 q ca cc pa pc ea ec b v hr k2 r (fun h => hyes ⟨hr.1, hr.2.1, hr.2.2, .inr (.inl ⟨k2, h⟩)⟩) (fun h => hno (fun g => h (by
   rcases g.2.2.2 with g | g | g
   ·have := g.1; omega
   ·exact g.2
   ·have := g.1; omega))) b8 hb8 w hq
 by_cases k3 : q.k = 3
 ·exact xchk_k3 q ca cc pa pc ea ec b v hr k3 r (fun h => hyes ⟨hr.1, hr.2.1, hr.2.2, .inr (.inr ⟨k3, h⟩)⟩) (fun h => hno (fun g => h (by
   rcases g.2.2.2 with g | g | g
   ·have := g.1; omega
   ·have := g.1; omega
   ·exact g.2))) b8 hb8 w hq
 rw [hno (fun g => by
   rcases g.2.2.2 with g | g | g
   ·have := g.1; omega
   ·have := g.1; omega
   ·have := g.1; omega)]
 exact xchk_k9 q ca cc pa pc ea ec b v hr ⟨k0, k1, k2, k3⟩ b8 hb8 w hq
end Go.Proofs.YthgpleelpeacjaaGreatDoor
