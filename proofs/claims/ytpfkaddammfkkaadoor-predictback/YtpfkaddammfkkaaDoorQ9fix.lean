/- Own text: the program's Fixed, Unfixed, Lpc and Unlpc. -/
import Derived.Test.YtpfkaddammfkkaaDoorQ9left
import Derived.Test.YtpfkaddammfkkaaDoorQ9fore
namespace Go.Proofs.YtpfkaddammfkkaaDoor
open Go.RowKit
set_option linter.unusedSimpArgs false
set_option linter.unusedVariables false
set_option maxRecDepth 20000 in
set_option maxHeartbeats 1600000 in
theorem qfixed_spec (o : Int) (l : List Int) (la : Option Addr) (lc : Nat) (hlc : l.length ≤ lc) (w : World) (hl : IntsAt w la l) : Calls Tryd.prog 9 #[.int .i64 o, .slice la l.length lc] w (Ret2 (fixR o l) w) := by
  have h1 := hl.len
  by_cases h1 : o < 0
  · have HR : Hid (fixR o l = none) := by show _ = _; unfold fixR; rw [if_neg (by omega)]
    go_enter Tryd.func9, Tryd.ntmps9
    go_wp2_with fail
    go_ret2
    exact ret_none HR.out rfl (Below.refl _ _)
  · skip
    by_cases h2 : 4 < o
    · have HR : Hid (fixR o l = none) := by show _ = _; unfold fixR; rw [if_neg (by omega)]
      go_enter Tryd.func9, Tryd.ntmps9
      go_wp2_with fail
      go_ret2
      exact ret_none HR.out rfl (Below.refl _ _)
    · skip
      by_cases h3 : (l.length : Int) < o
      · have HR : Hid (fixR o l = none) := by show _ = _; unfold fixR; rw [if_neg (by omega)]
        go_enter Tryd.func9, Tryd.ntmps9
        go_wp2_with fail
        go_ret2
        exact ret_none HR.out rfl (Below.refl _ _)
      · skip
        obtain ⟨o', rfl⟩ : ∃ o' : Nat, o = (o' : Int) := ⟨o.toNat, by omega⟩
        have ho4 : o' ≤ 4 := by omega
        have hol : o' ≤ l.length := by omega
        have HWL : Hid ((wF o').length = o') := wF_len o' ho4
        have HR : Hid (fixR (o' : Int) l = some (leftN (wF o') 0 l (l.length - o'))) := by
          show _ = _
          unfold fixR; rw [if_pos (by omega)]; rfl
        have kw := qcoefs_spec o' ho4 w
        have HL : Hid (IntsAt w la l) := hl
        clear hl
        go_enter Tryd.func9, Tryd.ntmps9
        go_wp2_with fail
        refine kw.mono ?_
        rintro e w2 ⟨ca, cc, rfl, hc, hb2⟩
        have km := qlinear_spec (wF o') ca cc 0 w2 hc
        rw [HWL.out] at km ⊢
        have HB2 : Hid (Below w.heap.size w w2) := hb2
        clear kw hb2 hc
        go_wp2_with fail
        refine km.mono ?_
        rintro e w3 ⟨b, rfl, hlin, hb3⟩
        have HB3 : Hid (Below w.heap.size w w3) := HB2.out.trans (hb3.mono HB2.out.size)
        have kl := qleft_spec (wF o') l ca la cc lc 0 b (by omega) (by rw [HWL.out]; exact hol) hlc w3 hlin (HL.out.below HB3.out)
        rw [HWL.out] at kl
        clear km hb3 hlin HB2
        generalize leftN (wF o') 0 l (l.length - o') = R at *
        go_wp2_with fail
        refine kl.mono ?_
        rintro e w4 ⟨ao, ac, rfl, hi4, hb4⟩
        have HI : Hid (IntsAt w4 ao R ∧ Below w.heap.size w w4) := ⟨hi4, HB3.out.trans (hb4.mono HB3.out.size)⟩
        clear hi4 hb4 kl
        go_wp2_with fail
        go_ret2
        exact ret_some HR.out rfl HI.out.1 HI.out.2
set_option maxRecDepth 20000 in
set_option maxHeartbeats 1600000 in
theorem qunfixed_spec (o : Int) (warm l : List Int) (wa la : Option Addr) (wc lc : Nat) (hl9 : l.length ≤ 17592186043904) (w : World) (hw : IntsAt w wa warm) (hl : IntsAt w la l) : Calls Tryd.prog 11 #[.int .i64 o, .slice wa warm.length wc, .slice la l.length lc] w (Ret2 (unfR o warm l) w) := by
  have h1 := hw.len
  by_cases h1 : o < 0
  · have HR : Hid (unfR o warm l = none) := by show _ = _; unfold unfR; rw [if_neg (by omega)]
    go_enter Tryd.func11, Tryd.ntmps11
    go_wp2_with fail
    go_ret2
    exact ret_none HR.out rfl (Below.refl _ _)
  · skip
    by_cases h2 : 4 < o
    · have HR : Hid (unfR o warm l = none) := by show _ = _; unfold unfR; rw [if_neg (by omega)]
      go_enter Tryd.func11, Tryd.ntmps11
      go_wp2_with fail
      go_ret2
      exact ret_none HR.out rfl (Below.refl _ _)
    · skip
      by_cases h3 : ¬ (warm.length : Int) = o
      · have hbn : ((warm.length : Int) != o) = true := by rw [bne_iff_ne]; exact h3
        have HR : Hid (unfR o warm l = none) := by show _ = _; unfold unfR; rw [if_neg (by omega)]
        go_enter Tryd.func11, Tryd.ntmps11
        go_wp2_with fail
        go_ret2
        exact ret_none HR.out rfl (Below.refl _ _)
      · skip
        obtain ⟨o', rfl⟩ : ∃ o' : Nat, o = (o' : Int) := ⟨o.toNat, by omega⟩
        have ho4 : o' ≤ 4 := by omega
        have HWO : Hid (warm.length = o') := by show _ = _; omega
        have hbn : ((warm.length : Int) != (o' : Int)) = false := by rw [bne_eq_false_iff_eq]; omega
        have HR : Hid (unfR (o' : Int) warm l = some (wholeN (wF o') 0 warm l l.length)) := by
          show _ = _
          unfold unfR; rw [if_pos (by omega)]; rfl
        have kw := qcoefs_spec o' ho4 w
        have HWL : Hid ((wF o').length = o') := wF_len o' ho4
        have HL : Hid (IntsAt w la l) := hl
        have HW : Hid (IntsAt w wa warm) := hw
        clear hl hw h3
        go_enter Tryd.func11, Tryd.ntmps11
        go_wp2_with fail
        refine kw.mono ?_
        rintro e w2 ⟨ca, cc, rfl, hc, hb2⟩
        have km := qlinear_spec (wF o') ca cc 0 w2 hc
        rw [HWL.out] at km ⊢
        have HB2 : Hid (Below w.heap.size w w2) := hb2
        clear kw hb2 hc
        go_wp2_with fail
        refine km.mono ?_
        rintro e w3 ⟨b, rfl, hlin, hb3⟩
        have HB3 : Hid (Below w.heap.size w w3) := HB2.out.trans (hb3.mono HB2.out.size)
        have kl := qfore_spec (wF o') warm l ca wa la cc wc lc 0 b (by omega) (by rw [HWL.out, HWO.out]) (by have := HWO.out; omega) hl9 w3 hlin (HW.out.below HB3.out) (HL.out.below HB3.out)
        clear km hb3 hlin HB2
        generalize wholeN (wF o') 0 warm l l.length = R at *
        go_wp2_with fail
        refine kl.mono ?_
        rintro e w4 ⟨ao, ac, rfl, hi4, hb4⟩
        have HI : Hid (IntsAt w4 ao R ∧ Below w.heap.size w w4) := ⟨hi4, HB3.out.trans (hb4.mono HB3.out.size)⟩
        clear hi4 hb4 kl
        go_wp2_with fail
        go_ret2
        exact ret_some HR.out rfl HI.out.1 HI.out.2
set_option maxRecDepth 20000 in
set_option maxHeartbeats 1600000 in
theorem qlpc_spec (C l : List Int) (sh : Int) (ca la : Option Addr) (cc lc : Nat) (hlc : l.length ≤ lc) (w : World) (hC : IntsAt w ca C) (hl : IntsAt w la l) : Calls Tryd.prog 15 #[.slice ca C.length cc, .int .i64 sh, .slice la l.length lc] w (Ret2 (lpcR C sh l) w) := by
  have km := qmay_spec C sh ca cc w hC
  have h1 := hC.len
  have h2 := hl.len
  have HC : Hid (IntsAt w ca C) := hC
  have HL : Hid (IntsAt w la l) := hl
  clear hC hl
  cases hm : mayB C sh with
  | false =>
    have HR : Hid (lpcR C sh l = none) := by show _ = _; unfold lpcR; rw [hm, if_neg (fun h => by cases h.1)]
    rw [hm] at km
    clear hm
    go_enter Tryd.func15, Tryd.ntmps15
    go_wp2_with fail
    refine km.mono ?_
    rintro e w2 ⟨rfl, rfl⟩
    go_wp2_with fail
    go_ret2
    exact ret_none HR.out rfl (Below.refl _ _)
  | true =>
    obtain ⟨m1, m2, m3, m4⟩ := (mayB_iff C sh).1 hm
    obtain ⟨s', rfl⟩ : ∃ s' : Nat, sh = (s' : Int) := ⟨sh.toNat, by omega⟩
    have hs31 : s' ≤ 31 := by omega
    by_cases hk : C.length ≤ l.length
    · have hk2 : (C.length : Int) ≤ (l.length : Int) := by omega
      have HR : Hid (lpcR C (s' : Int) l = some (leftN C s' l (l.length - C.length))) := by show _ = _; unfold lpcR; rw [hm, if_pos ⟨rfl, hk⟩]; rfl
      skip
      rw [hm] at km
      clear hm
      go_enter Tryd.func15, Tryd.ntmps15
      go_wp2_with fail
      refine km.mono ?_
      rintro e w2 ⟨rfl, rfl⟩
      have kn := qlinear_spec C ca cc s' w2 HC.out
      clear km
      go_wp2_with fail
      refine kn.mono ?_
      rintro e w3 ⟨b, rfl, hlin, hb3⟩
      have HB3 : Hid (Below w2.heap.size w2 w3) := hb3
      have kl := qleft_spec C l ca la cc lc s' b hs31 hk hlc w3 hlin (HL.out.below HB3.out)
      generalize leftN C s' l (l.length - C.length) = R at *
      clear kn hb3 hlin
      go_wp2_with fail
      refine kl.mono ?_
      rintro e w4 ⟨ao, ac, rfl, hi4, hb4⟩
      have HI : Hid (IntsAt w4 ao R ∧ Below w2.heap.size w2 w4) := ⟨hi4, HB3.out.trans (hb4.mono HB3.out.size)⟩
      clear hi4 hb4 kl
      go_wp2_with fail
      go_ret2
      exact ret_some HR.out rfl HI.out.1 HI.out.2
    · have HR : Hid (lpcR C (s' : Int) l = none) := by show _ = _; unfold lpcR; rw [if_neg (fun h => hk h.2)]
      have hk2 : (l.length : Int) < (C.length : Int) := by omega
      rw [hm] at km
      clear hm
      go_enter Tryd.func15, Tryd.ntmps15
      go_wp2_with fail
      refine km.mono ?_
      rintro e w2 ⟨rfl, rfl⟩
      go_wp2_with fail
      go_ret2
      exact ret_none HR.out rfl (Below.refl _ _)
set_option maxRecDepth 20000 in
set_option maxHeartbeats 1600000 in
theorem qunlpc_spec (C warm l : List Int) (sh : Int) (ca wa la : Option Addr) (cc wc lc : Nat) (hl9 : l.length ≤ 17592186043904) (w : World) (hC : IntsAt w ca C) (hw : IntsAt w wa warm) (hl : IntsAt w la l) : Calls Tryd.prog 17 #[.slice ca C.length cc, .int .i64 sh, .slice wa warm.length wc, .slice la l.length lc] w (Ret2 (unlR C sh warm l) w) := by
  have km := qmay_spec C sh ca cc w hC
  have h1 := hC.len
  have h2 := hw.len
  have HC : Hid (IntsAt w ca C) := hC
  have HW : Hid (IntsAt w wa warm) := hw
  have HL : Hid (IntsAt w la l) := hl
  clear hC hl hw
  cases hm : mayB C sh with
  | false =>
    have HR : Hid (unlR C sh warm l = none) := by show _ = _; unfold unlR; rw [hm, if_neg (fun h => by cases h.1)]
    rw [hm] at km
    clear hm
    go_enter Tryd.func17, Tryd.ntmps17
    go_wp2_with fail
    refine km.mono ?_
    rintro e w2 ⟨rfl, rfl⟩
    go_wp2_with fail
    go_ret2
    exact ret_none HR.out rfl (Below.refl _ _)
  | true =>
    obtain ⟨m1, m2, m3, m4⟩ := (mayB_iff C sh).1 hm
    obtain ⟨s', rfl⟩ : ∃ s' : Nat, sh = (s' : Int) := ⟨sh.toNat, by omega⟩
    have hs31 : s' ≤ 31 := by omega
    by_cases hk : warm.length = C.length
    · have hbn : ((warm.length : Int) != (C.length : Int)) = false := by rw [bne_eq_false_iff_eq]; omega
      have HK : Hid (warm.length = C.length) := hk
      have HR : Hid (unlR C (s' : Int) warm l = some (wholeN C s' warm l l.length)) := by show _ = _; unfold unlR; rw [hm, if_pos ⟨rfl, hk⟩]; rfl
      clear hk
      rw [hm] at km
      clear hm
      go_enter Tryd.func17, Tryd.ntmps17
      go_wp2_with fail
      refine km.mono ?_
      rintro e w2 ⟨rfl, rfl⟩
      have kn := qlinear_spec C ca cc s' w2 HC.out
      clear km
      go_wp2_with fail
      refine kn.mono ?_
      rintro e w3 ⟨b, rfl, hlin, hb3⟩
      have HB3 : Hid (Below w2.heap.size w2 w3) := hb3
      have kl := qfore_spec C warm l ca wa la cc wc lc s' b hs31 HK.out.symm (by have := HK.out; omega) hl9 w3 hlin (HW.out.below HB3.out) (HL.out.below HB3.out)
      generalize wholeN C s' warm l l.length = R at *
      clear kn hb3 hlin
      go_wp2_with fail
      refine kl.mono ?_
      rintro e w4 ⟨ao, ac, rfl, hi4, hb4⟩
      have HI : Hid (IntsAt w4 ao R ∧ Below w2.heap.size w2 w4) := ⟨hi4, HB3.out.trans (hb4.mono HB3.out.size)⟩
      clear hi4 hb4 kl
      go_wp2_with fail
      go_ret2
      exact ret_some HR.out rfl HI.out.1 HI.out.2
    · have HR : Hid (unlR C (s' : Int) warm l = none) := by show _ = _; unfold unlR; rw [if_neg (fun h => hk h.2)]
      have hbn : ((warm.length : Int) != (C.length : Int)) = true := by rw [bne_iff_ne]; omega
      rw [hm] at km
      clear hm
      go_enter Tryd.func17, Tryd.ntmps17
      go_wp2_with fail
      refine km.mono ?_
      rintro e w2 ⟨rfl, rfl⟩
      go_wp2_with fail
      go_ret2
      exact ret_none HR.out rfl (Below.refl _ _)

end Go.Proofs.YtpfkaddammfkkaaDoor
