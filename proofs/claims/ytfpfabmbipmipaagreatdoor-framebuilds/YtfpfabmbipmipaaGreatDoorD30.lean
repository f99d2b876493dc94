/- Own text. -/
import Derived.Test.YtfpfabmbipmipaaGreatDoorD23
import Derived.Test.YtfpfabmbipmipaaGreatDoorD29
set_option linter.unusedSimpArgs false
set_option linter.unusedVariables false
set_option maxRecDepth 20000
set_option maxHeartbeats 12800000
namespace Go.Proofs.YtfpfabmbipmipaaGreatDoor
open Go.RowKit
theorem xcheck11 (f : Fm) (so : OA) (sk : Nat) (a b c d : Int) (i : Inf) (e : Int) (s : ByteArray) (hr : I64 i.rate) (r : Int) (hyes : okC f i -> r = 0) (hno : ¬ okC f i -> r = 60) (w : World) (hf : FmAt w f so sk) : Calls Tryz.prog 11 #[fmV f so sk, infV a b c d i e s] w fun en w' => en = .returned (.int .i64 r) /\ Lo w w' := by
 have hlen := hf.S.len
 have HS := kQ hf.S
 have HYES := kQ hyes
 have HNO := kQ hno
 clear hyes hno hf
 obtain ⟨mx, hmx⟩ : ∃ mx : Int, mx = if f.v then 68719476735 else 2147483647 := ⟨_, rfl⟩
 have HMX := kQ hmx
 clear hmx
 have HA : Hid (FX w f so sk a b c d i e s ((w.alloc (.cells (fmC f so sk) 24)).alloc (.cells (infC a b c d i e s) 26))) := FX.new w f so sk a b c d i e s
 go_enter Tryz.func11, Tryz.ntmps11
 go_upto_region 1 with fail
 generalize World.alloc _ _ = wa at *
 obtain ⟨f0, f1, f2, f3, f4, f5, f6, f7, i0, i1, i2, i3, i4, i5, i6, i7, i8⟩ := HA.out.cells
 go_upto_if 8 with fail
 go_cut [5] from 7 to 8 (fun s5 wx => s5 = .int .i64 mx /\ wx = wa)
 case first =>
  go_wp2_with fail
  all_goals go_meet
  all_goals (rename_i hv; exact ⟨by rw [HMX.out, hv]; rfl, rfl⟩)
 case rest =>
  obtain ⟨rfl, rfl⟩ := hcut;by_cases g0 : ¬ mayF i
  focus
   have HR0 : Hid (r = 60) := HNO.out (fun h => g0 h.1.1);have K1 : Hid (∀ wx, Hid (FX w f so sk a b c d i e s wx) -> Calls Tryz.prog 38 #[infV a b c d i e s] wx fun en w' => en = .returned (.bool false) /\ Hid (FX w f so sk a b c d i e s w')) := fun wx hx => (xstream11 a b c d i e s false (ff_iff (g0)) wx).mono fun en w' hh => ⟨hh.1, hx.out.next hh.2⟩;clear g0
  rotate_left
  focus
   skip
   by_cases g1 : f.size < 1
   focus
    have HR0 : Hid (r = 60) := HNO.out (fun h => by have := h.1.2.1; omega)
    have K1 : Hid (∀ wx, Hid (FX w f so sk a b c d i e s wx) -> Calls Tryz.prog 38 #[infV a b c d i e s] wx fun en w' => en = .returned (.bool true) /\ Hid (FX w f so sk a b c d i e s w')) := fun wx hx => (xstream11 a b c d i e s true (tt_iff (Classical.not_not.1 g0)) wx).mono fun en w' hh => ⟨hh.1, hx.out.next hh.2⟩;have t1 : decide (f.size < 1) = true := decide_eq_true (by omega)
    clear g0 g1
   rotate_left
   focus
    skip
    by_cases g2 : 4608 < f.size
    focus
     have HR0 : Hid (r = 60) := HNO.out (fun h => by have := h.1.2.1; omega)
     have K1 : Hid (∀ wx, Hid (FX w f so sk a b c d i e s wx) -> Calls Tryz.prog 38 #[infV a b c d i e s] wx fun en w' => en = .returned (.bool true) /\ Hid (FX w f so sk a b c d i e s w')) := fun wx hx => (xstream11 a b c d i e s true (tt_iff (Classical.not_not.1 g0)) wx).mono fun en w' hh => ⟨hh.1, hx.out.next hh.2⟩;have t1 : decide (f.size < 1) = false := decide_eq_false (by omega)
     have t2 : decide (4608 < f.size) = true := decide_eq_true (by omega)
     clear g0 g1 g2
    rotate_left
    focus
     skip
     by_cases g3 : f.num < 0
     focus
      have HR0 : Hid (r = 60) := HNO.out (fun h => by have := h.1.2.2.1; omega)
      have K1 : Hid (∀ wx, Hid (FX w f so sk a b c d i e s wx) -> Calls Tryz.prog 38 #[infV a b c d i e s] wx fun en w' => en = .returned (.bool true) /\ Hid (FX w f so sk a b c d i e s w')) := fun wx hx => (xstream11 a b c d i e s true (tt_iff (Classical.not_not.1 g0)) wx).mono fun en w' hh => ⟨hh.1, hx.out.next hh.2⟩;have t1 : decide (f.size < 1) = false := decide_eq_false (by omega)
      have t2 : decide (4608 < f.size) = false := decide_eq_false (by omega)
      have t3 : decide (f.num < 0) = true := decide_eq_true (by omega)
      clear g0 g1 g2 g3
     rotate_left
     focus
      skip
      by_cases g4 : mx < f.num
      focus
       have HR0 : Hid (r = 60) := HNO.out (fun h => by have := h.1.2.2.1.2; have := HMX.out; omega)
       have K1 : Hid (∀ wx, Hid (FX w f so sk a b c d i e s wx) -> Calls Tryz.prog 38 #[infV a b c d i e s] wx fun en w' => en = .returned (.bool true) /\ Hid (FX w f so sk a b c d i e s w')) := fun wx hx => (xstream11 a b c d i e s true (tt_iff (Classical.not_not.1 g0)) wx).mono fun en w' hh => ⟨hh.1, hx.out.next hh.2⟩;have t1 : decide (f.size < 1) = false := decide_eq_false (by omega)
       have t2 : decide (4608 < f.size) = false := decide_eq_false (by omega)
       have t3 : decide (f.num < 0) = false := decide_eq_false (by omega)
       have t4 : decide (mx < f.num) = true := decide_eq_true (by omega)
       clear g0 g1 g2 g3 g4
      rotate_left
      focus
       skip
       by_cases g5 : f.mo < 0
       focus
        have HR0 : Hid (r = 60) := HNO.out (fun h => by have := h.1.2.2.2.1; omega)
        have K1 : Hid (∀ wx, Hid (FX w f so sk a b c d i e s wx) -> Calls Tryz.prog 38 #[infV a b c d i e s] wx fun en w' => en = .returned (.bool true) /\ Hid (FX w f so sk a b c d i e s w')) := fun wx hx => (xstream11 a b c d i e s true (tt_iff (Classical.not_not.1 g0)) wx).mono fun en w' hh => ⟨hh.1, hx.out.next hh.2⟩;have t1 : decide (f.size < 1) = false := decide_eq_false (by omega)
        have t2 : decide (4608 < f.size) = false := decide_eq_false (by omega)
        have t3 : decide (f.num < 0) = false := decide_eq_false (by omega)
        have t4 : decide (mx < f.num) = false := decide_eq_false (by omega)
        have t5 : decide (f.mo < 0) = true := decide_eq_true (by omega)
        clear g0 g1 g2 g3 g4 g5
       rotate_left
       focus
        skip
        by_cases g6 : 3 < f.mo
        focus
         have HR0 : Hid (r = 60) := HNO.out (fun h => by have := h.1.2.2.2.1; omega)
         have K1 : Hid (∀ wx, Hid (FX w f so sk a b c d i e s wx) -> Calls Tryz.prog 38 #[infV a b c d i e s] wx fun en w' => en = .returned (.bool true) /\ Hid (FX w f so sk a b c d i e s w')) := fun wx hx => (xstream11 a b c d i e s true (tt_iff (Classical.not_not.1 g0)) wx).mono fun en w' hh => ⟨hh.1, hx.out.next hh.2⟩;have t1 : decide (f.size < 1) = false := decide_eq_false (by omega)
         have t2 : decide (4608 < f.size) = false := decide_eq_false (by omega)
         have t3 : decide (f.num < 0) = false := decide_eq_false (by omega)
         have t4 : decide (mx < f.num) = false := decide_eq_false (by omega)
         have t5 : decide (f.mo < 0) = false := decide_eq_false (by omega)
         have t6 : decide (3 < f.mo) = true := decide_eq_true (by omega)
         clear g0 g1 g2 g3 g4 g5 g6
        rotate_left
        focus
         skip
         by_cases g7 : ¬ (f.mo = 0 ∨ i.ch = 2)
         focus
          have HR0 : Hid (r = 60) := HNO.out (fun h => g7 h.1.2.2.2.1.2.2);have K1 : Hid (∀ wx, Hid (FX w f so sk a b c d i e s wx) -> Calls Tryz.prog 38 #[infV a b c d i e s] wx fun en w' => en = .returned (.bool true) /\ Hid (FX w f so sk a b c d i e s w')) := fun wx hx => (xstream11 a b c d i e s true (tt_iff (Classical.not_not.1 g0)) wx).mono fun en w' hh => ⟨hh.1, hx.out.next hh.2⟩;have t1 : decide (f.size < 1) = false := decide_eq_false (by omega)
          have t2 : decide (4608 < f.size) = false := decide_eq_false (by omega)
          have t3 : decide (f.num < 0) = false := decide_eq_false (by omega)
          have t4 : decide (mx < f.num) = false := decide_eq_false (by omega)
          have t5 : decide (f.mo < 0) = false := decide_eq_false (by omega)
          have t6 : decide (3 < f.mo) = false := decide_eq_false (by omega)
          have t7 : (f.mo != 0) = true := nQt (by omega)
          have t8 : (i.ch != 2) = true := nQt (by omega)
          clear g0 g1 g2 g3 g4 g5 g6 g7
         rotate_left
         focus
          skip
          by_cases g8 : ¬ (saysZ f /\ saysR f i /\ saysW f i)
          focus
           have HR0 : Hid (r = 60) := HNO.out (fun h => g8 ⟨h.1.2.2.2.2.1, h.1.2.2.2.2.2.1, h.1.2.2.2.2.2.2⟩);have K1 : Hid (∀ wx, Hid (FX w f so sk a b c d i e s wx) -> Calls Tryz.prog 38 #[infV a b c d i e s] wx fun en w' => en = .returned (.bool true) /\ Hid (FX w f so sk a b c d i e s w')) := fun wx hx => (xstream11 a b c d i e s true (tt_iff (Classical.not_not.1 g0)) wx).mono fun en w' hh => ⟨hh.1, hx.out.next hh.2⟩;have t1 : decide (f.size < 1) = false := decide_eq_false (by omega)
           have t2 : decide (4608 < f.size) = false := decide_eq_false (by omega)
           have t3 : decide (f.num < 0) = false := decide_eq_false (by omega)
           have t4 : decide (mx < f.num) = false := decide_eq_false (by omega)
           have t5 : decide (f.mo < 0) = false := decide_eq_false (by omega)
           have t6 : decide (3 < f.mo) = false := decide_eq_false (by omega)
           obtain ⟨b5, h5⟩ : ∃ bb : Bool, bb = true ↔ saysZ f := ⟨decide (saysZ f), by simp⟩
           obtain ⟨b6, h6⟩ : ∃ bb : Bool, bb = true ↔ saysR f i := ⟨decide (saysR f i), by simp⟩
           obtain ⟨b7, h7⟩ : ∃ bb : Bool, bb = true ↔ saysW f i := ⟨decide (saysW f i), by simp⟩
           have hbv : (b5 && b6 && b7) = false := by
            cases e : (b5 && b6 && b7) with
            | false => rfl
            | true =>
             rw [Bool.and_eq_true, Bool.and_eq_true] at e;exact absurd ⟨h5.1 e.1.1, h6.1 e.1.2, h7.1 e.2⟩ g8
           have hmay := Classical.not_not.1 g0;have KS : Hid (∀ wx, Hid (FX w f so sk a b c d i e s wx) -> Calls Tryz.prog 39 #[fmV f so sk, infV a b c d i e s] wx fun en w' => en = .returned (.bool false) /\ Hid (FX w f so sk a b c d i e s w')) := fun wx hx => (xsays11 f so sk a b c d i e s ⟨hmay.2.2, hr.2⟩ b5 b6 b7 h5 h6 h7 wx).mono fun en w' hh => ⟨by rw [hh.1, hbv], hx.out.next hh.2⟩
           clear hbv h5 h6 h7 hmay;by_cases gm : f.mo = 0
           focus
            have t7 : (f.mo != 0) = false := by rw [bne_eq_false_iff_eq]; exact gm
            clear gm g0 g1 g2 g3 g4 g5 g6 g7 g8
           rotate_left
           focus
            have t7 : (f.mo != 0) = true := by rw [bne_iff_ne]; exact gm
            have t8 : (i.ch != 2) = false := nQf (by omega)
            clear gm g0 g1 g2 g3 g4 g5 g6 g7 g8
           rotate_left
          rotate_left 2
          focus
           skip
           by_cases g9 : ¬ (f.S.length : Int) = i.ch
           focus
            have HR0 : Hid (r = 60) := HNO.out (fun h => g9 h.2.1);have K1 : Hid (∀ wx, Hid (FX w f so sk a b c d i e s wx) -> Calls Tryz.prog 38 #[infV a b c d i e s] wx fun en w' => en = .returned (.bool true) /\ Hid (FX w f so sk a b c d i e s w')) := fun wx hx => (xstream11 a b c d i e s true (tt_iff (Classical.not_not.1 g0)) wx).mono fun en w' hh => ⟨hh.1, hx.out.next hh.2⟩;have t1 : decide (f.size < 1) = false := decide_eq_false (by omega)
            have t2 : decide (4608 < f.size) = false := decide_eq_false (by omega)
            have t3 : decide (f.num < 0) = false := decide_eq_false (by omega)
            have t4 : decide (mx < f.num) = false := decide_eq_false (by omega)
            have t5 : decide (f.mo < 0) = false := decide_eq_false (by omega)
            have t6 : decide (3 < f.mo) = false := decide_eq_false (by omega)
            obtain ⟨b5, h5⟩ : ∃ bb : Bool, bb = true ↔ saysZ f := ⟨decide (saysZ f), by simp⟩
            obtain ⟨b6, h6⟩ : ∃ bb : Bool, bb = true ↔ saysR f i := ⟨decide (saysR f i), by simp⟩
            obtain ⟨b7, h7⟩ : ∃ bb : Bool, bb = true ↔ saysW f i := ⟨decide (saysW f i), by simp⟩
            have hbv : (b5 && b6 && b7) = true := by rw [h5.2 (Classical.not_not.1 g8).1, h6.2 (Classical.not_not.1 g8).2.1, h7.2 (Classical.not_not.1 g8).2.2]; rfl
            have hmay := Classical.not_not.1 g0;have KS : Hid (∀ wx, Hid (FX w f so sk a b c d i e s wx) -> Calls Tryz.prog 39 #[fmV f so sk, infV a b c d i e s] wx fun en w' => en = .returned (.bool true) /\ Hid (FX w f so sk a b c d i e s w')) := fun wx hx => (xsays11 f so sk a b c d i e s ⟨hmay.2.2, hr.2⟩ b5 b6 b7 h5 h6 h7 wx).mono fun en w' hh => ⟨by rw [hh.1, hbv], hx.out.next hh.2⟩
            clear hbv h5 h6 h7 hmay;have t9 : ((f.S.length : Int) != i.ch) = true := by rw [bne_iff_ne]; exact g9
            by_cases gm : f.mo = 0
            focus
             have t7 : (f.mo != 0) = false := by rw [bne_eq_false_iff_eq]; exact gm
             clear gm g0 g1 g2 g3 g4 g5 g6 g7 g8 g9
            rotate_left
            focus
             have t7 : (f.mo != 0) = true := by rw [bne_iff_ne]; exact gm
             have t8 : (i.ch != 2) = false := nQf (by omega)
             clear gm g0 g1 g2 g3 g4 g5 g6 g7 g8 g9
            rotate_left
           rotate_left 2
           ·skip
            have HBB : Hid ((∀ j, j < f.S.length -> subOk (f.S.getD j Sb0) f.size (wdA i f.mo j)) -> r = 0) := fun h => HYES.out ⟨⟨Classical.not_not.1 g0, by omega, ⟨by omega, by have := HMX.out; omega⟩, ⟨by omega, by omega, Classical.not_not.1 g7⟩, (Classical.not_not.1 g8).1, (Classical.not_not.1 g8).2.1, (Classical.not_not.1 g8).2.2⟩, Classical.not_not.1 g9, h⟩
            have HBN : Hid (∀ n, n < f.S.length -> ¬ subOk (f.S.getD n Sb0) f.size (wdA i f.mo n) -> r = 60) := fun n hn h => HNO.out (fun hh => h (hh.2.2 n hn));have hwd : 4 <= i.wd /\ i.wd <= 24 := (Classical.not_not.1 g0).2.1;have K1 : Hid (∀ wx, Hid (FX w f so sk a b c d i e s wx) -> Calls Tryz.prog 38 #[infV a b c d i e s] wx fun en w' => en = .returned (.bool true) /\ Hid (FX w f so sk a b c d i e s w')) := fun wx hx => (xstream11 a b c d i e s true (tt_iff (Classical.not_not.1 g0)) wx).mono fun en w' hh => ⟨hh.1, hx.out.next hh.2⟩;have t1 : decide (f.size < 1) = false := decide_eq_false (by omega)
            have t2 : decide (4608 < f.size) = false := decide_eq_false (by omega)
            have t3 : decide (f.num < 0) = false := decide_eq_false (by omega)
            have t4 : decide (mx < f.num) = false := decide_eq_false (by omega)
            have t5 : decide (f.mo < 0) = false := decide_eq_false (by omega)
            have t6 : decide (3 < f.mo) = false := decide_eq_false (by omega)
            obtain ⟨b5, h5⟩ : ∃ bb : Bool, bb = true ↔ saysZ f := ⟨decide (saysZ f), by simp⟩
            obtain ⟨b6, h6⟩ : ∃ bb : Bool, bb = true ↔ saysR f i := ⟨decide (saysR f i), by simp⟩
            obtain ⟨b7, h7⟩ : ∃ bb : Bool, bb = true ↔ saysW f i := ⟨decide (saysW f i), by simp⟩
            have hbv : (b5 && b6 && b7) = true := by rw [h5.2 (Classical.not_not.1 g8).1, h6.2 (Classical.not_not.1 g8).2.1, h7.2 (Classical.not_not.1 g8).2.2]; rfl
            have hmay := Classical.not_not.1 g0;have KS : Hid (∀ wx, Hid (FX w f so sk a b c d i e s wx) -> Calls Tryz.prog 39 #[fmV f so sk, infV a b c d i e s] wx fun en w' => en = .returned (.bool true) /\ Hid (FX w f so sk a b c d i e s w')) := fun wx hx => (xsays11 f so sk a b c d i e s ⟨hmay.2.2, hr.2⟩ b5 b6 b7 h5 h6 h7 wx).mono fun en w' hh => ⟨by rw [hh.1, hbv], hx.out.next hh.2⟩
            clear hbv h5 h6 h7 hmay;have t9 : ((f.S.length : Int) != i.ch) = false := by rw [bne_eq_false_iff_eq]; exact Classical.not_not.1 g9
            have KWW : Hid (∀ n : Nat, ∀ wx, Hid (FX w f so sk a b c d i e s wx) -> Calls Tryz.prog 30 #[infV a b c d i e s, .int .i64 f.mo, .int .i64 (n : Int)] wx fun en w' => en = .returned (.int .i64 (wdA i f.mo n)) /\ Hid (FX w f so sk a b c d i e s w')) := fun n wx hx => (xwidths11 a b c d i e s hwd f.mo n wx).mono fun en w' hh => ⟨hh.1, hx.out.next hh.2⟩
            have ht78 : ((f.mo != 0) = false) ∨ ((f.mo != 0) = true /\ (i.ch != 2) = false) := by
             by_cases gm : f.mo = 0
             ·exact .inl (by rw [bne_eq_false_iff_eq]; exact gm)
             ·exact .inr ⟨by rw [bne_iff_ne]; exact gm, by rw [bne_eq_false_iff_eq]; omega⟩
            clear g0 g1 g2 g3 g4 g5 g6 g7 g8 g9 HYES HNO HMX hwd
            go_upto_region 4 with fail
            go_cut [66] from 9 to 66 (fun s66 wx => s66 = .bool false /\ FX w f so sk a b c d i e s wx)
            case first =>
             rcases ht78 with t7 | ⟨t7, t8⟩
             rotate_left;rotate_left
             all_goals
              go_wp2_with fail
              refine (K1.out _ HA).mono ?_;rintro en w1 ⟨rfl, HB1⟩;clear HA f0 f1 f2 f3 f4 f5 f6 f7 i0 i1 i2 i3 i4 i5 i6 i7 i8;obtain ⟨f0, f1, f2, f3, f4, f5, f6, f7, i0, i1, i2, i3, i4, i5, i6, i7, i8⟩ := HB1.out.cells
              go_wp2_with fail
              refine (KS.out _ HB1).mono ?_;rintro en w2 ⟨rfl, HB2⟩;clear HB1 f0 f1 f2 f3 f4 f5 f6 f7 i0 i1 i2 i3 i4 i5 i6 i7 i8;obtain ⟨f0, f1, f2, f3, f4, f5, f6, f7, i0, i1, i2, i3, i4, i5, i6, i7, i8⟩ := HB2.out.cells
              go_wp2_with fail
              go_meet
              exact ⟨rfl, HB2.out⟩
            case rest =>
             clear HA ht78 t1 t2 t3 t4 t5 t6 t9 K1 KS f0 f1 f2 f3 f4 f5 f6 f7 i0 i1 i2 i3 i4 i5 i6 i7 i8;obtain ⟨rfl, hfx⟩ := hcut;have HA := kQ hfx;clear hfx
             go_wp2_with fail
             go_loopw [6] (fun s6 wr => ∃ n : Nat, n <= f.S.length /\ s6 = .int .i64 (n : Int) /\ (∀ j, j < n -> subOk (f.S.getD j Sb0) f.size (wdA i f.mo j)) /\ FX w f so sk a b c d i e s wr) (fun s6 _ => f.S.length - (intOf s6).toNat)
             case atStart => exact ⟨0, Nat.zero_le _, rfl, fun j hj => absurd hj (Nat.not_lt_zero _), HA.out⟩
             case round =>
              clear HA;obtain ⟨n, hn, rfl, hok, hfx⟩ := hrel;have HOK := kQ hok;have HFX := kQ hfx;clear hok hfx;by_cases hlt : n < f.S.length
              focus
               obtain ⟨sb, sf, rfl, q1⟩ := HS.out.lies (by omega)
               obtain ⟨ca, cc, pa, pc, ea, ec, m1, m2, m3⟩ := q1 n hlt;have KW : Hid (∀ wx, Hid (FX w f (some ⟨sb, sf, none⟩) sk a b c d i e s wx) -> Calls Tryz.prog 30 #[infV a b c d i e s, .int .i64 f.mo, .int .i64 (n : Int)] wx fun en w' => en = .returned (.int .i64 (wdA i f.mo n)) /\ Hid (FX w f (some ⟨sb, sf, none⟩) sk a b c d i e s w')) := fun wx hx => KWW.out n wx hx
               obtain ⟨r2, hr2⟩ : ∃ r2 : Int, (subOk (f.S.getD n Sb0) f.size (wdA i f.mo n) -> r2 = 0) /\ (¬ subOk (f.S.getD n Sb0) f.size (wdA i f.mo n) -> r2 = 60) := by
                by_cases h : subOk (f.S.getD n Sb0) f.size (wdA i f.mo n)
                ·exact ⟨0, fun _ => rfl, fun h2 => absurd h h2⟩
                ·exact ⟨60, fun h2 => absurd h2 h, fun _ => rfl⟩
               have KK : Hid (∀ wx, Hid (FX w f (some ⟨sb, sf, none⟩) sk a b c d i e s wx) -> Calls Tryz.prog 40 #[subV (f.S.getD n Sb0) ca cc pa pc ea ec, .int .i64 f.size, .int .i64 (wdA i f.mo n)] wx fun en w' => en = .returned (.int .i64 r2) /\ Hid (FX w f (some ⟨sb, sf, none⟩) sk a b c d i e s w')) := fun wx hx => (xchk10 (f.S.getD n Sb0) ca cc pa pc ea ec f.size (wdA i f.mo n) r2 hr2.1 hr2.2 wx (m2.below hx.out.below)).mono fun en w' q => ⟨q.1, hx.out.next q.2⟩;have HR := kQ hr2;have HE : Hid (∀ j, j = n -> subOk (f.S.getD j Sb0) f.size (wdA i f.mo j) = subOk (f.S.getD n Sb0) f.size (wdA i f.mo n)) := fun j hj => by rw [hj]
               have HM1 : Hid (∀ wx, Lo w wx -> SubIn wx sb (sf + n * 10) (f.S.getD n Sb0) ca cc pa pc ea ec) := fun wx hb => m1.keep (hb.block _ (lt_cell m1.1));clear q1 m1 m2 m3 hr2 KWW;obtain ⟨f0, f1, f2, f3, f4, f5, f6, f7, i0, i1, i2, i3, i4, i5, i6, i7, i8⟩ := HFX.out.cells;by_cases hs : subOk (f.S.getD n Sb0) f.size (wdA i f.mo n)
               focus
                have hr0 := HR.out.1 hs;subst hr0;have HSO := kQ hs;clear hs HR HBB HBN
               rotate_left
               focus
                have hr0 := HR.out.2 hs;subst hr0;have HF := kQ (HBN.out n hlt hs);clear hs HR HBB HE HOK HBN
               rotate_left
              rotate_left 2
              ·have HF : Hid (r = 0) := HBB.out (fun j hj => HOK.out j (by omega))
               clear HBB HOK HBN;obtain ⟨f0, f1, f2, f3, f4, f5, f6, f7, i0, i1, i2, i3, i4, i5, i6, i7, i8⟩ := HFX.out.cells
               go_wp2_with fail
               go_ret;exact ⟨by rw [HF.out]; rfl, HFX.out.below⟩
              all_goals
               generalize f.S.getD n Sb0 = q at *;generalize wdA i f.mo n = v at *
               have HC : Hid (∀ wx, Hid (FX w f (some ⟨sb, sf, none⟩) sk a b c d i e s wx) -> wx.cell? ⟨w.heap.size, 2, none⟩ = some (.int .i64 f.size) /\ wx.cell? ⟨w.heap.size, 6, none⟩ = some (.int .i64 f.mo) /\ wx.cell? ⟨w.heap.size, 7, none⟩ = some (.slice (some ⟨sb, sf, none⟩) f.S.length sk) /\ wx.cell? ⟨w.heap.size + 1, 0, none⟩ = some (.int .i64 a) /\ wx.cell? ⟨w.heap.size + 1, 1, none⟩ = some (.int .i64 b) /\ wx.cell? ⟨w.heap.size + 1, 2, none⟩ = some (.int .i64 c) /\ wx.cell? ⟨w.heap.size + 1, 3, none⟩ = some (.int .i64 d) /\ wx.cell? ⟨w.heap.size + 1, 4, none⟩ = some (.int .i64 i.rate) /\ wx.cell? ⟨w.heap.size + 1, 5, none⟩ = some (.int .i64 i.ch) /\ wx.cell? ⟨w.heap.size + 1, 6, none⟩ = some (.int .i64 i.wd) /\ wx.cell? ⟨w.heap.size + 1, 7, none⟩ = some (.int .i64 e) /\ wx.cell? ⟨w.heap.size + 1, 8, none⟩ = some (.string s) /\ wx.cell? ⟨sb, sf + n * 10, none⟩ = some (.int .i64 q.k) /\ wx.cell? ⟨sb, sf + n * 10 + 1, none⟩ = some (.int .i64 q.o) /\ wx.cell? ⟨sb, sf + n * 10 + 2, none⟩ = some (.int .i64 q.w) /\ wx.cell? ⟨sb, sf + n * 10 + 3, none⟩ = some (.int .i64 q.p) /\ wx.cell? ⟨sb, sf + n * 10 + 4, none⟩ = some (.int .i64 q.h) /\ wx.cell? ⟨sb, sf + n * 10 + 5, none⟩ = some (.slice ca q.C.length cc) /\ wx.cell? ⟨sb, sf + n * 10 + 6, none⟩ = some (.int .i64 q.R.m) /\ wx.cell? ⟨sb, sf + n * 10 + 7, none⟩ = some (.int .i64 q.R.o) /\ wx.cell? ⟨sb, sf + n * 10 + 8, none⟩ = some (.slice pa q.R.P.length pc) /\ wx.cell? ⟨sb, sf + n * 10 + 9, none⟩ = some (.slice ea q.R.E.length ec)) := fun wx h => by
                obtain ⟨f0, f1, f2, f3, f4, f5, f6, f7, i0, i1, i2, i3, i4, i5, i6, i7, i8⟩ := h.out.cells;exact ⟨f2, f6, f7, i0, i1, i2, i3, i4, i5, i6, i7, i8, HM1.out wx h.out.below⟩
               have HD := kQ HFX.out.drew;clear HFX HM1
               go_wp2_with fail
               clear f0 f1 f2 f3 f4 f5 f6 f7 i0 i1 i2 i3 i4 i5 i6 i7 i8
               go_region_held3 (fun wx => wx.cell? ⟨w.heap.size, 2, none⟩ = some (.int .i64 f.size) /\ wx.cell? ⟨w.heap.size, 6, none⟩ = some (.int .i64 f.mo) /\ wx.cell? ⟨w.heap.size, 7, none⟩ = some (.slice (some ⟨sb, sf, none⟩) f.S.length sk) /\ wx.cell? ⟨w.heap.size + 1, 0, none⟩ = some (.int .i64 a) /\ wx.cell? ⟨w.heap.size + 1, 1, none⟩ = some (.int .i64 b) /\ wx.cell? ⟨w.heap.size + 1, 2, none⟩ = some (.int .i64 c) /\ wx.cell? ⟨w.heap.size + 1, 3, none⟩ = some (.int .i64 d) /\ wx.cell? ⟨w.heap.size + 1, 4, none⟩ = some (.int .i64 i.rate) /\ wx.cell? ⟨w.heap.size + 1, 5, none⟩ = some (.int .i64 i.ch) /\ wx.cell? ⟨w.heap.size + 1, 6, none⟩ = some (.int .i64 i.wd) /\ wx.cell? ⟨w.heap.size + 1, 7, none⟩ = some (.int .i64 e) /\ wx.cell? ⟨w.heap.size + 1, 8, none⟩ = some (.string s) /\ wx.cell? ⟨sb, sf + n * 10, none⟩ = some (.int .i64 q.k) /\ wx.cell? ⟨sb, sf + n * 10 + 1, none⟩ = some (.int .i64 q.o) /\ wx.cell? ⟨sb, sf + n * 10 + 2, none⟩ = some (.int .i64 q.w) /\ wx.cell? ⟨sb, sf + n * 10 + 3, none⟩ = some (.int .i64 q.p) /\ wx.cell? ⟨sb, sf + n * 10 + 4, none⟩ = some (.int .i64 q.h) /\ wx.cell? ⟨sb, sf + n * 10 + 5, none⟩ = some (.slice ca q.C.length cc) /\ wx.cell? ⟨sb, sf + n * 10 + 6, none⟩ = some (.int .i64 q.R.m) /\ wx.cell? ⟨sb, sf + n * 10 + 7, none⟩ = some (.int .i64 q.R.o) /\ wx.cell? ⟨sb, sf + n * 10 + 8, none⟩ = some (.slice pa q.R.P.length pc) /\ wx.cell? ⟨sb, sf + n * 10 + 9, none⟩ = some (.slice ea q.R.E.length ec)) (exact HC.out _ (by assumption))
                (first
                 | (go_at_call 30; refine (KW.out _ (by assumption)).mono ?_; rintro en w4 ⟨rfl, h4⟩)
                 | (go_at_call 40; refine (KK.out _ (by assumption)).mono ?_; rintro en w5 ⟨rfl, h5⟩))
               go_wp2_with fail
              ·go_roundw
               case rel =>
                refine ⟨n + 1, by omega, by go_num, fun j hj => ?_, h5.out⟩
                by_cases ej : j = n
                ·rw [HE.out j ej]; exact HSO.out
                ·exact HOK.out j (by omega)
               case measure => simp [intOf]; omega
              ·go_ret
               exact ⟨by rw [HF.out]; rfl, h5.out.below⟩
          rotate_left 2
         rotate_left 4
        rotate_left 5
       rotate_left 6
      rotate_left 7
     rotate_left 8
    rotate_left 9
   rotate_left 10
  rotate_left 11
  all_goals
   go_wp2_with fail
   refine (K1.out _ HA).mono ?_;rintro en w1 ⟨rfl, HB1⟩;clear HA f0 f1 f2 f3 f4 f5 f6 f7 i0 i1 i2 i3 i4 i5 i6 i7 i8;obtain ⟨f0, f1, f2, f3, f4, f5, f6, f7, i0, i1, i2, i3, i4, i5, i6, i7, i8⟩ := HB1.out.cells
   go_wp2_with fail
  ·go_ret
   exact ⟨by rw [HR0.out]; rfl, HB1.out.below⟩
  ·go_ret
   exact ⟨by rw [HR0.out]; rfl, HB1.out.below⟩
  ·go_ret
   exact ⟨by rw [HR0.out]; rfl, HB1.out.below⟩
  ·go_ret
   exact ⟨by rw [HR0.out]; rfl, HB1.out.below⟩
  ·go_ret
   exact ⟨by rw [HR0.out]; rfl, HB1.out.below⟩
  ·go_ret
   exact ⟨by rw [HR0.out]; rfl, HB1.out.below⟩
  ·go_ret
   exact ⟨by rw [HR0.out]; rfl, HB1.out.below⟩
  ·go_ret
   exact ⟨by rw [HR0.out]; rfl, HB1.out.below⟩
  rotate_left 4
  all_goals
   refine (KS.out _ HB1).mono ?_;rintro en w2 ⟨rfl, HB2⟩;clear HB1 f0 f1 f2 f3 f4 f5 f6 f7 i0 i1 i2 i3 i4 i5 i6 i7 i8;obtain ⟨f0, f1, f2, f3, f4, f5, f6, f7, i0, i1, i2, i3, i4, i5, i6, i7, i8⟩ := HB2.out.cells
   go_wp2_with fail
   go_ret;exact ⟨by rw [HR0.out]; rfl, HB2.out.below⟩
theorem unc_again (l : List Nat) : ∀ (m i n r : Nat), unc l m i n = (r, 0) -> r / 64 ^ m = n /\ (m = 0 ∨ i + m <= l.length) /\ ∀ t, t < m -> l.getD (i + t) 0 = 128 + r / 64 ^ (m - 1 - t) % 64 := by
 intro m
 induction m with
 | zero =>
  intro i n r h;rw [unc_end] at h;have e : n = r := congrArg Prod.fst h;exact ⟨by rw [e, Nat.pow_zero, Nat.div_one], .inl rfl, fun t ht => absurd ht (Nat.not_lt_zero t)⟩
 | succ m ih =>
  intro i n r h;by_cases h1 : l.length <= i
  ·rw [unc_short l m i n h1] at h
   have e : 10 = 0 := congrArg Prod.snd h;cases e
  ·by_cases h2 : l.getD i 0 < 128 ∨ 192 <= l.getD i 0
   ·rw [unc_bad l m i n h1 h2] at h
    have e : 2 = 0 := congrArg Prod.snd h;cases e
   ·rw [unc_step l m i n h1 h2] at h
    obtain ⟨a1, a2, a3⟩ := ih _ _ _ h
    have hr : r / 64 ^ (m + 1) = n := by
     rw [Nat.pow_succ, <- Nat.div_div_eq_div_mul, a1];omega
    refine ⟨hr, .inr (by omega), fun t ht => ?_⟩
    by_cases e : t = 0
    ·subst e
     rw [Nat.add_zero, show m + 1 - 1 - 0 = m by omega, a1]
     omega
    ·have h3 := a3 (t - 1) (by omega)
     rw [show i + 1 + (t - 1) = i + t by omega, show m - 1 - (t - 1) = m + 1 - 1 - t by omega] at h3
     exact h3
theorem clen_least (n k : Nat) (h1 : 1 <= k) (h7 : k <= 7) (h : n < cbound k) (hk : ¬ clen n < k) : clen n = k := by
 have := clen_le n k h1 h7 h
 omega
theorem uncode_again (l : List Nat) (hl : ∀ b ∈ l, b < 256) (n k : Nat) (h : uncode l = (n, k, 0)) : k = clen n /\ n < 68719476736 /\ k <= l.length /\ l.take k = codeL n k := by
 unfold uncode at h
 by_cases h0 : l.length = 0
 ·rw [if_pos h0] at h
  have e : 10 = 0 := congrArg (fun x => x.2.2) h;cases e
 rw [if_neg h0] at h
 by_cases hz : hc (l.getD 0 0) = 0
 ·rw [if_pos hz] at h
  have e : 2 = 0 := congrArg (fun x => x.2.2) h;cases e
 rw [if_neg hz] at h
 have hb : l.getD 0 0 < 256 := by
  rw [List.getD_eq_getElem?_getD, List.getElem?_eq_getElem (by omega)]
  exact hl _ (List.getElem_mem (by omega))
 obtain ⟨f1, f2⟩ := hc_first (l.getD 0 0) hb hz
 have h7 := hc_range (l.getD 0 0)
 have h1 : 1 <= hc (l.getD 0 0) := by omega
 obtain ⟨K, hK⟩ : ∃ K, K = hc (l.getD 0 0) := ⟨_, rfl⟩
 rw [<- hK] at h f1 f2 h7 h1
 obtain ⟨u, hu⟩ : ∃ u, u = unc l (K - 1) 1 (l.getD 0 0 - hm K) := ⟨_, rfl⟩
 rw [<- hu] at h
 unfold uncEnd at h
 by_cases hz2 : u.2 ≠ 0
 ·rw [if_pos hz2] at h
  exact absurd (congrArg (fun x => x.2.2) h) hz2
 rw [if_neg hz2] at h
 by_cases hs : clen u.1 < K
 ·rw [if_pos hs] at h
  have e : 2 = 0 := congrArg (fun x => x.2.2) h;cases e
 rw [if_neg hs] at h
 have e1 : u.1 = n := congrArg (fun x => x.1) h
 have e2 : K = k := congrArg (fun x => x.2.1) h
 have hu2 : unc l (K - 1) 1 (l.getD 0 0 - hm K) = (n, 0) := by
  rw [<- hu, <- e1];exact Prod.ext rfl (Classical.not_not.1 hz2)
 obtain ⟨a1, a2, a3⟩ := unc_again l _ _ _ _ hu2
 rw [e1] at hs
 have hlt : n < cbound K := by
  have hp : 0 < 64 ^ (K - 1) := Nat.pow_pos (by decide)
  have h3 := Nat.lt_succ_self (n / 64 ^ (K - 1));rw [a1] at h3
  have h4 : n < (l.getD 0 0 - hm K + 1) * 64 ^ (K - 1) := by
   rw [<- Nat.div_lt_iff_lt_mul hp, a1]; exact Nat.lt_succ_self _
  omega
 have hcl := clen_least n K h1 h7 hlt hs
 have hcb := cbound_le K h1 h7
 have hKl : K <= l.length := by
  rcases a2 with a2 | a2 <;> omega
 rw [<- e2]
 refine ⟨hcl.symm, by omega, hKl, ?_⟩
 apply List.ext_getElem?
 intro j
 by_cases hj : j < K
 ·rw [List.getElem?_take, if_pos hj, List.getElem?_eq_getElem (by omega)]
  unfold codeL;rw [List.getElem?_map, List.getElem?_range hj];show some l[j] = some (codeAt n K j);have hg : l[j] = l.getD j 0 := by rw [List.getD_eq_getElem?_getD, List.getElem?_eq_getElem (by omega)]; rfl
  rw [hg];congr 1;unfold codeAt;by_cases hj0 : j = 0
  ·subst hj0
   rw [if_pos rfl, a1];omega
  ·rw [if_neg hj0]
   have := a3 (j - 1) (by omega)
   rw [show 1 + (j - 1) = j by omega, show K - 1 - 1 - (j - 1) = K - 1 - j by omega] at this
   exact this
 ·rw [List.getElem?_eq_none (by rw [List.length_take]; omega), List.getElem?_eq_none (by rw [codeL_length]; omega)]
def extN (sc : Nat) : Nat := if sc = 6 then 1 else if sc = 7 then 2 else 0
def rwN (rc : Nat) : Nat := if rc = 12 then 1 else if rc = 13 then 2 else if rc = 14 then 2 else 0
abbrev hdOk4 (B : List Nat) : Prop := 4 <= B.length /\ B.getD 0 0 = 255 /\ (B.getD 1 0 = 248 ∨ B.getD 1 0 = 249) /\ B.getD 3 0 % 2 = 0
theorem getD_byte (B : List Nat) (hB : ∀ b ∈ B, b < 256) (j : Nat) : B.getD j 0 < 256 := by
 rw [List.getD_eq_getElem?_getD]
 by_cases h : j < B.length
 ·rw [List.getElem?_eq_getElem h]; exact hB _ (List.getElem_mem h)
 ·rw [List.getElem?_eq_none (by omega)]; decide
theorem take4_at (B : List Nat) (h : 4 <= B.length) : B.take 4 = [B.getD 0 0, B.getD 1 0, B.getD 2 0, B.getD 3 0] := by
 match B, h with
 | b0 :: b1 :: b2 :: b3 :: t, _ => rfl
theorem rc_rng {f : Fm} {i : Inf} (h : saysR f i) : 0 <= f.rc /\ f.rc <= 14 := by rcases h with h | h | h | h | h <;> omega
theorem wc_rng {f : Fm} {i : Inf} (h : saysW f i) : 0 <= f.wc /\ f.wc <= 6 /\ ¬ f.wc = 3 := by rcases h with h | h <;> omega
def chB (i : Inf) (mo : Int) (S : List Sb) (L : List (List Int)) : Nat -> List Nat
 | 0 => []
 | n + 1 => chB i mo S L n ++ subB (S.getD n Sb0) (wdA i mo n) (L.getD n [])
theorem subsB_ch (f : Fm) (i : Inf) (P : List (List Int)) (n : Nat) : subsB f i P n = chB i f.mo f.S (chnL f.mo P) n := by
 induction n with
 | zero => rfl
 | succ n ih =>
  show subsB f i P n ++ _ = chB i f.mo f.S (chnL f.mo P) n ++ _;rw [ih]
def subsP (s : ByteArray) (a : Nat) (i : Inf) (mo size : Int) : Nat -> Option (List (List Int) × List Sb × Nat)
 | 0 => some ([], [], a)
 | n + 1 => match subsP s a i mo size n with
  | none => none
  | some (L, S, a1) => match decS s a1 size (wdA i mo n) with
   | none => none
   | some (l, q, a2) => some (L ++ [l], S ++ [q], a2)
theorem getD_snoc {α : Type} (l : List α) (x d : α) (j n : Nat) (hn : l.length = n) : (l ++ [x]).getD j d = if j < n then l.getD j d else if j = n then x else d := by
 rw [List.getD_eq_getElem?_getD, List.getD_eq_getElem?_getD]
 by_cases h : j < n
 ·rw [if_pos h, List.getElem?_append_left (by omega)]
 ·rw [if_neg h, List.getElem?_append_right (by omega)]
  by_cases e : j = n
  ·rw [if_pos e, show j - l.length = 0 by omega]; rfl
  ·rw [if_neg e, List.getElem?_eq_none (by simp; omega)]; rfl
theorem bits8_inj (b c : Nat) (hb : b < 256) (hc : c < 256) (h : bitsOf b 8 = bitsOf c 8) : b = c := by
 have := congrArg num h
 rw [num_bitsOf, num_bitsOf] at this
 have e : (2 : Nat) ^ 8 = 256 := by decide
 rw [e] at this
 omega
theorem sbits_inj : ∀ (X Y : List Nat), (∀ b ∈ X, b < 256) -> (∀ b ∈ Y, b < 256) -> sbits X = sbits Y -> X = Y
 | [], [], _, _, _ => rfl
 | [], y :: Y, _, _, h => by have := congrArg List.length h; rw [sbits_length, sbits_length] at this; simp at this
 | x :: X, [], _, _, h => by have := congrArg List.length h; rw [sbits_length, sbits_length] at this; simp at this
 | x :: X, y :: Y, hx, hy, h => by
  have e1 : sbits (x :: X) = bitsOf x 8 ++ sbits X := rfl;have e2 : sbits (y :: Y) = bitsOf y 8 ++ sbits Y := rfl;rw [e1, e2] at h;obtain ⟨h1, h2⟩ := List.append_inj h (by rw [bitsOf_length, bitsOf_length])
  rw [bits8_inj x y (hx x (List.mem_cons_self)) (hy y (List.mem_cons_self)) h1, sbits_inj X Y (fun b hb => hx b (List.mem_cons_of_mem _ hb)) (fun b hb => hy b (List.mem_cons_of_mem _ hb)) h2]
def plnL (mo : Int) (L : List (List Int)) : List (List Int) := if mo = 0 then L else [zipN (unP mo.toNat) (L.getD 0 []) (L.getD 1 []) (L.getD 0 []).length, zipN (unQ mo.toNat) (L.getD 0 []) (L.getD 1 []) (L.getD 0 []).length]
theorem chB_01 (i : Inf) (mo : Int) (S : List Sb) (L : List (List Int)) (n : Nat) : Bits01 (chB i mo S L n) := by
 induction n with
 | zero => exact Bits01.nil
 | succ n ih => exact ih.append (subB_01 _ _ _)
theorem pack_lt (bits : List Nat) (h : Bits01 bits) : ∀ b ∈ pack bits, b < 256 := fun b hb => by
 obtain ⟨j, _, rfl⟩ := List.mem_map.1 hb
 exact byteOf_lt bits h j
theorem getD_mem' (L : List (List Int)) (c : Nat) (h : c < L.length) : L.getD c [] ∈ L := by
 rw [List.getD_eq_getElem?_getD, List.getElem?_eq_getElem h]; exact List.getElem_mem h
theorem mem_getD' (L : List (List Int)) (l : List Int) (h : l ∈ L) : ∃ c, c < L.length /\ L.getD c [] = l := by
 obtain ⟨c, hc, rfl⟩ := List.getElem_of_mem h
 exact ⟨c, hc, by rw [List.getD_eq_getElem?_getD, List.getElem?_eq_getElem hc]; rfl⟩
theorem sbits_behind (D : List Nat) (m : Nat) (hm : m <= D.length) : (sbits D).drop (8 * m) = sbits (D.drop m) := by
 have e : sbits D = sbits (D.take m) ++ sbits (D.drop m) := by rw [<- sbits_append, List.take_append_drop]
 have hl : (sbits (D.take m)).length = 8 * m := by rw [sbits_length, List.length_take]; omega
 rw [e, <- hl, List.drop_left]
end Go.Proofs.YtfpfabmbipmipaaGreatDoor
