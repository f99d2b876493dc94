/- Own text: the document's Fixed, Unfixed, Lpc and Unlpc. -/
import Derived.Test.YtpfkaddammfkkaaDoorR9whole
namespace Go.Proofs.YtpfkaddammfkkaaDoor
open Go.RowKit
set_option linter.unusedSimpArgs false
set_option linter.unusedVariables false

def fixR (o : Int) (l : List Int) : Option (List Int) := if 0 ≤ o ∧ o ≤ 4 ∧ o ≤ (l.length : Int) then some (leftN (wF o.toNat) 0 l (l.length - o.toNat)) else none
def unfR (o : Int) (warm l : List Int) : Option (List Int) := if 0 ≤ o ∧ o ≤ 4 ∧ (warm.length : Int) = o then some (wholeN (wF o.toNat) 0 warm l l.length) else none
def mayB (C : List Int) (sh : Int) : Bool := decide (1 ≤ C.length) && decide (C.length ≤ 32) && decide (0 ≤ sh) && decide (sh ≤ 31)
def lpcR (C : List Int) (sh : Int) (l : List Int) : Option (List Int) := if mayB C sh = true ∧ C.length ≤ l.length then some (leftN C sh.toNat l (l.length - C.length)) else none
def unlR (C : List Int) (sh : Int) (warm l : List Int) : Option (List Int) := if mayB C sh = true ∧ warm.length = C.length then some (wholeN C sh.toNat warm l l.length) else none
theorem ret_none {R : Option (List Int)} (h : R = none) {w w' : World} {e : Ending} (he : e = .returned (.tuple #[.slice none 0 0, .int .i64 1])) (hb : Below w.heap.size w w') : Ret2 R w e w' := by
  subst h; exact ⟨none, 0, he, IntsAt.nil w', hb⟩
theorem ret_some {R : Option (List Int)} {L : List Int} (h : R = some L) {w w' : World} {e : Ending} {la : Option Addr} {lc : Nat} (he : e = .returned (.tuple #[.slice la L.length lc, .int .i64 0])) (hi : IntsAt w' la L) (hb : Below w.heap.size w w') : Ret2 R w e w' := by
  subst h; exact ⟨la, lc, he, hi, hb⟩
theorem mayB_iff (C : List Int) (sh : Int) : mayB C sh = true ↔ 1 ≤ C.length ∧ C.length ≤ 32 ∧ 0 ≤ sh ∧ sh ≤ 31 := by unfold mayB; simp [and_assoc]
set_option maxRecDepth 20000 in
set_option maxHeartbeats 3200000 in
theorem xfixed_spec (o : Int) (l : List Int) (la : Option Addr) (lc : Nat) (w : World) (hl : IntsAt w la l) : Calls Tryd.prog 10 #[.int .i64 o, .slice la l.length lc] w (Ret2 (fixR o l) w) := by
  have h1 := hl.len
  by_cases h1 : o < 0
  · have HR : Hid (fixR o l = none) := by show _ = _; unfold fixR; rw [if_neg (by omega)]
    go_enter Tryd.func10, Tryd.ntmps10
    go_wp2_with fail
    go_ret2
    exact ret_none HR.out rfl (Below.refl _ _)
  · skip
    by_cases h2 : 4 < o
    · have HR : Hid (fixR o l = none) := by show _ = _; unfold fixR; rw [if_neg (by omega)]
      go_enter Tryd.func10, Tryd.ntmps10
      go_wp2_with fail
      go_ret2
      exact ret_none HR.out rfl (Below.refl _ _)
    · skip
      by_cases h3 : (l.length : Int) < o
      · have HR : Hid (fixR o l = none) := by show _ = _; unfold fixR; rw [if_neg (by omega)]
        go_enter Tryd.func10, Tryd.ntmps10
        go_wp2_with fail
        go_ret2
        exact ret_none HR.out rfl (Below.refl _ _)
      · skip
        obtain ⟨o', rfl⟩ : ∃ o' : Nat, o = (o' : Int) := ⟨o.toNat, by omega⟩
        have ho4 : o' ≤ 4 := by omega
        have hol : o' ≤ l.length := by omega
        have HR : Hid (fixR (o' : Int) l = some (leftN (wF o') 0 l (l.length - (wF o').length))) := by
          show _ = _
          unfold fixR; rw [if_pos (by omega), wF_len o' ho4]; rfl
        have kw := xweights_spec o' ho4 w
        have hwl := wF_len o' ho4
        have HL : Hid (IntsAt w la l) := hl
        clear hl
        go_enter Tryd.func10, Tryd.ntmps10
        go_wp2_with fail
        refine kw.mono ?_
        rintro e w2 ⟨ca, cc, rfl, hc, hb2⟩
        have kl := xleft_spec (wF o') l ca la cc lc 0 (by omega) (by omega) w2 hc (HL.out.below hb2)
        have HB2 : Hid (Below w.heap.size w w2) := hb2
        have HLN : Hid ((leftN (wF o') 0 l (l.length - (wF o').length)).length ≤ 17592186044415 ∧ ∀ n ∈ leftN (wF o') 0 l (l.length - (wF o').length), -9223372036854775808 ≤ n ∧ n ≤ 9223372036854775807) := ⟨by rw [leftN_len]; omega, leftN_rng _ _ _ _⟩
        clear kw hb2 hc hwl
        generalize leftN (wF o') 0 l (l.length - (wF o').length) = R at *
        go_wp2_with fail
        refine kl.mono ?_
        rintro e w3 ⟨v, rfl, hout⟩
        obtain ⟨ao, ac, rfl⟩ := hout.shape
        have HI : Hid (IntsAt w3 ao R ∧ Below w.heap.size w w3) := ⟨hout.ints HLN.out.1 HLN.out.2, HB2.out.trans (hout.below.mono HB2.out.size)⟩
        clear hout kl
        go_wp2_with fail
        go_ret2
        exact ret_some HR.out rfl HI.out.1 HI.out.2
set_option maxRecDepth 20000 in
set_option maxHeartbeats 3200000 in
theorem xunfixed_spec (o : Int) (warm l : List Int) (wa la : Option Addr) (wc lc : Nat) (hwn : wa = none → wc = 0) (hl9 : l.length ≤ 17592186043904) (w : World) (hw : IntsAt w wa warm) (hl : IntsAt w la l) : Calls Tryd.prog 12 #[.int .i64 o, .slice wa warm.length wc, .slice la l.length lc] w (Ret2 (unfR o warm l) w) := by
  have h1 := hw.len
  by_cases h1 : o < 0
  · have HR : Hid (unfR o warm l = none) := by show _ = _; unfold unfR; rw [if_neg (by omega)]
    go_enter Tryd.func12, Tryd.ntmps12
    go_wp2_with fail
    go_ret2
    exact ret_none HR.out rfl (Below.refl _ _)
  · skip
    by_cases h2 : 4 < o
    · have HR : Hid (unfR o warm l = none) := by show _ = _; unfold unfR; rw [if_neg (by omega)]
      go_enter Tryd.func12, Tryd.ntmps12
      go_wp2_with fail
      go_ret2
      exact ret_none HR.out rfl (Below.refl _ _)
    · skip
      by_cases h3 : ¬ (warm.length : Int) = o
      · have hbn : ((warm.length : Int) != o) = true := by rw [bne_iff_ne]; exact h3
        have HR : Hid (unfR o warm l = none) := by show _ = _; unfold unfR; rw [if_neg (by omega)]
        go_enter Tryd.func12, Tryd.ntmps12
        go_wp2_with fail
        go_ret2
        exact ret_none HR.out rfl (Below.refl _ _)
      · skip
        obtain ⟨o', rfl⟩ : ∃ o' : Nat, o = (o' : Int) := ⟨o.toNat, by omega⟩
        have ho4 : o' ≤ 4 := by omega
        have HWO : Hid (warm.length = o') := by show _ = _; omega
        have hbn : ((warm.length : Int) != (o' : Int)) = false := by rw [bne_eq_false_iff_eq]; omega
        have HR : Hid (unfR (o' : Int) warm l = some (wholeN (wF o') 0 warm l l.length)) := by
          show _ = _
          unfold unfR; rw [if_pos (by omega)]; rfl
        have kw := xweights_spec o' ho4 w
        have HWL : Hid ((wF o').length = o') := wF_len o' ho4
        have HL : Hid (IntsAt w la l) := hl
        have HW : Hid (IntsAt w wa warm) := hw
        clear hl hw h3
        go_enter Tryd.func12, Tryd.ntmps12
        go_wp2_with fail
        refine kw.mono ?_
        rintro e w2 ⟨ca, cc, rfl, hc, hb2⟩
        have kl := xwhole_spec (wF o') warm l ca wa la cc wc lc 0 (by omega) (by rw [HWL.out, HWO.out]) (by have := HWO.out; omega) hl9 hwn w2 hc (HW.out.below hb2) (HL.out.below hb2)
        have HB2 : Hid (Below w.heap.size w w2) := hb2
        clear kw hb2 hc
        generalize wholeN (wF o') 0 warm l l.length = R at *
        go_wp2_with fail
        refine kl.mono ?_
        rintro e w3 ⟨ao, ac, rfl, hi3, hb3⟩
        have HI : Hid (IntsAt w3 ao R ∧ Below w.heap.size w w3) := ⟨hi3, HB2.out.trans (hb3.mono HB2.out.size)⟩
        clear hi3 hb3 kl
        go_wp2_with fail
        go_ret2
        exact ret_some HR.out rfl HI.out.1 HI.out.2
set_option maxRecDepth 20000 in
set_option maxHeartbeats 3200000 in
theorem xmay_spec (C : List Int) (sh : Int) (ca : Option Addr) (cc : Nat) (w : World) (hC : IntsAt w ca C) : Calls Tryd.prog 38 #[.slice ca C.length cc, .int .i64 sh] w fun e w' => e = .returned (.bool (mayB C sh)) ∧ w' = w := by
  have h1 := hC.len
  have HM : Hid (mayB C sh = (decide (1 ≤ C.length) && decide (C.length ≤ 32) && decide (0 ≤ sh) && decide (sh ≤ 31))) := rfl
  clear hC
  by_cases g1 : ¬ 1 ≤ C.length
  · have hF : mayB C sh = false := by
      cases h : mayB C sh with
      | false => rfl
      | true => rw [mayB_iff] at h; omega
    rw [hF]
    clear HM hF
    go_enter Tryd.func38, Tryd.ntmps38
    go_wp2_with fail
    go_ret
    exact ⟨rfl, rfl⟩
  · skip
    by_cases g2 : ¬ C.length ≤ 32
    · have hF : mayB C sh = false := by
        cases h : mayB C sh with
        | false => rfl
        | true => rw [mayB_iff] at h; omega
      rw [hF]
      clear HM hF
      go_enter Tryd.func38, Tryd.ntmps38
      go_wp2_with fail
      go_ret
      exact ⟨rfl, rfl⟩
    · skip
      by_cases g3 : ¬ 0 ≤ sh
      · have hF : mayB C sh = false := by
          cases h : mayB C sh with
          | false => rfl
          | true => rw [mayB_iff] at h; omega
        rw [hF]
        clear HM hF
        go_enter Tryd.func38, Tryd.ntmps38
        go_wp2_with fail
        go_ret
        exact ⟨rfl, rfl⟩
      · skip
        by_cases g4 : ¬ sh ≤ 31
        · have hF : mayB C sh = false := by
            cases h : mayB C sh with
            | false => rfl
            | true => rw [mayB_iff] at h; omega
          rw [hF]
          clear HM hF
          go_enter Tryd.func38, Tryd.ntmps38
          go_wp2_with fail
          go_ret
          exact ⟨rfl, rfl⟩
        · skip
          have hF : mayB C sh = true := by rw [mayB_iff]; omega
          rw [hF]
          clear HM hF
          go_enter Tryd.func38, Tryd.ntmps38
          go_wp2_with fail
          go_ret
          exact ⟨rfl, rfl⟩
set_option maxRecDepth 20000 in
set_option maxHeartbeats 3200000 in
theorem xlpc_spec (C l : List Int) (sh : Int) (ca la : Option Addr) (cc lc : Nat) (w : World) (hC : IntsAt w ca C) (hl : IntsAt w la l) : Calls Tryd.prog 16 #[.slice ca C.length cc, .int .i64 sh, .slice la l.length lc] w (Ret2 (lpcR C sh l) w) := by
  have km := xmay_spec C sh ca cc w hC
  have h1 := hC.len
  have h2 := hl.len
  have HC : Hid (IntsAt w ca C) := hC
  have HL : Hid (IntsAt w la l) := hl
  clear hC hl
  cases hm : mayB C sh with
  | false =>
    have HR : Hid (lpcR C sh l = none) := by show _ = _; unfold lpcR; rw [hm, if_neg (fun h => by cases h.1)]
    rw [hm] at km
    clear hm
    go_enter Tryd.func16, Tryd.ntmps16
    go_wp2_with fail
    refine km.mono ?_
    rintro e w2 ⟨rfl, rfl⟩
    go_wp2_with fail
    go_ret2
    exact ret_none HR.out rfl (Below.refl _ _)
  | true =>
    obtain ⟨m1, m2, m3, m4⟩ := (mayB_iff C sh).1 hm
    obtain ⟨s', rfl⟩ : ∃ s' : Nat, sh = (s' : Int) := ⟨sh.toNat, by omega⟩
    have hs31 : s' ≤ 31 := by omega
    by_cases hk : C.length ≤ l.length
    · have hk2 : (C.length : Int) ≤ (l.length : Int) := by omega
      have HR : Hid (lpcR C (s' : Int) l = some (leftN C s' l (l.length - C.length))) := by show _ = _; unfold lpcR; rw [hm, if_pos ⟨rfl, hk⟩]; rfl
      rw [hm] at km
      clear hm
      go_enter Tryd.func16, Tryd.ntmps16
      go_wp2_with fail
      refine km.mono ?_
      rintro e w2 ⟨rfl, rfl⟩
      have kl := xleft_spec C l ca la cc lc s' hs31 hk w2 HC.out HL.out
      have HLN : Hid ((leftN C s' l (l.length - C.length)).length ≤ 17592186044415 ∧ ∀ n ∈ leftN C s' l (l.length - C.length), -9223372036854775808 ≤ n ∧ n ≤ 9223372036854775807) := ⟨by rw [leftN_len]; omega, leftN_rng _ _ _ _⟩
      generalize leftN C s' l (l.length - C.length) = R at *
      clear km
      go_wp2_with fail
      refine kl.mono ?_
      rintro e w3 ⟨v, rfl, hout⟩
      obtain ⟨ao, ac, rfl⟩ := hout.shape
      have HI : Hid (IntsAt w3 ao R ∧ Below w2.heap.size w2 w3) := ⟨hout.ints HLN.out.1 HLN.out.2, hout.below⟩
      clear hout kl
      go_wp2_with fail
      go_ret2
      exact ret_some HR.out rfl HI.out.1 HI.out.2
    · have HR : Hid (lpcR C (s' : Int) l = none) := by show _ = _; unfold lpcR; rw [if_neg (fun h => hk h.2)]
      have hk2 : (l.length : Int) < (C.length : Int) := by omega
      rw [hm] at km
      clear hm
      go_enter Tryd.func16, Tryd.ntmps16
      go_wp2_with fail
      refine km.mono ?_
      rintro e w2 ⟨rfl, rfl⟩
      go_wp2_with fail
      go_ret2
      exact ret_none HR.out rfl (Below.refl _ _)
set_option maxRecDepth 20000 in
set_option maxHeartbeats 3200000 in
theorem xunlpc_spec (C warm l : List Int) (sh : Int) (ca wa la : Option Addr) (cc wc lc : Nat) (hwn : wa = none → wc = 0) (hl9 : l.length ≤ 17592186043904) (w : World) (hC : IntsAt w ca C) (hw : IntsAt w wa warm) (hl : IntsAt w la l) : Calls Tryd.prog 18 #[.slice ca C.length cc, .int .i64 sh, .slice wa warm.length wc, .slice la l.length lc] w (Ret2 (unlR C sh warm l) w) := by
  have km := xmay_spec C sh ca cc w hC
  have h1 := hC.len
  have h2 := hw.len
  have HC : Hid (IntsAt w ca C) := hC
  have HW : Hid (IntsAt w wa warm) := hw
  have HL : Hid (IntsAt w la l) := hl
  clear hC hl hw
  cases hm : mayB C sh with
  | false =>
    have HR : Hid (unlR C sh warm l = none) := by show _ = _; unfold unlR; rw [hm, if_neg (fun h => by cases h.1)]
    rw [hm] at km
    clear hm
    go_enter Tryd.func18, Tryd.ntmps18
    go_wp2_with fail
    refine km.mono ?_
    rintro e w2 ⟨rfl, rfl⟩
    go_wp2_with fail
    go_ret2
    exact ret_none HR.out rfl (Below.refl _ _)
  | true =>
    obtain ⟨m1, m2, m3, m4⟩ := (mayB_iff C sh).1 hm
    obtain ⟨s', rfl⟩ : ∃ s' : Nat, sh = (s' : Int) := ⟨sh.toNat, by omega⟩
    have hs31 : s' ≤ 31 := by omega
    by_cases hk : warm.length = C.length
    · have hbn : ((warm.length : Int) != (C.length : Int)) = false := by rw [bne_eq_false_iff_eq]; omega
      have HK : Hid (warm.length = C.length) := hk
      have HR : Hid (unlR C (s' : Int) warm l = some (wholeN C s' warm l l.length)) := by show _ = _; unfold unlR; rw [hm, if_pos ⟨rfl, hk⟩]; rfl
      rw [hm] at km
      clear hm
      go_enter Tryd.func18, Tryd.ntmps18
      go_wp2_with fail
      refine km.mono ?_
      rintro e w2 ⟨rfl, rfl⟩
      have kl := xwhole_spec C warm l ca wa la cc wc lc s' hs31 HK.out.symm (by have := HK.out; omega) hl9 hwn w2 HC.out HW.out HL.out
      generalize wholeN C s' warm l l.length = R at *
      clear km hk
      go_wp2_with fail
      refine kl.mono ?_
      rintro e w3 ⟨ao, ac, rfl, hi3, hb3⟩
      have HI : Hid (IntsAt w3 ao R ∧ Below w2.heap.size w2 w3) := ⟨hi3, hb3⟩
      clear hi3 hb3 kl
      go_wp2_with fail
      go_ret2
      exact ret_some HR.out rfl HI.out.1 HI.out.2
    · have HR : Hid (unlR C (s' : Int) warm l = none) := by show _ = _; unfold unlR; rw [if_neg (fun h => hk h.2)]
      have hbn : ((warm.length : Int) != (C.length : Int)) = true := by rw [bne_iff_ne]; omega
      rw [hm] at km
      clear hm
      go_enter Tryd.func18, Tryd.ntmps18
      go_wp2_with fail
      refine km.mono ?_
      rintro e w2 ⟨rfl, rfl⟩
      go_wp2_with fail
      go_ret2
      exact ret_none HR.out rfl (Below.refl _ _)

end Go.Proofs.YtpfkaddammfkkaaDoor
