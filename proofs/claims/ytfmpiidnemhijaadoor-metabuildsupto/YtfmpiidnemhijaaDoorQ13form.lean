/- Own text: the walks of isCueSheet, isPicture, hasForm. -/
import Derived.Test.YtfmpiidnemhijaaDoorQ13take
import Derived.Test.YtfmpiidnemhijaaDoorAwake
namespace Go.Proofs.YtfmpiidnemhijaaDoor
open Go.RowKit
set_option linter.unusedSimpArgs false
set_option linter.unusedVariables false

theorem ext_all (s : ByteArray) : s.extract 0 s.size = s := by
  apply bytes_inj
  rw [bytesOf_ext, List.drop_zero, List.take_of_length_le (by rw [bytesOf_length]; exact Nat.le_refl _)]
/-- A walk that a call made. -/
def Ww (w0 wx : World) (s : ByteArray) (o : Option Nat) : Prop := Wo wx w0.heap.size s o ∧ Below w0.heap.size w0 wx
theorem Ww.step {w0 wx w' : World} {s : ByteArray} {o o' : Option Nat} (h : Ww w0 wx s o) (h1 : Wo w' w0.heap.size s o') (h2 : Stays (only w0.heap.size) wx w') : Ww w0 w' s o' :=
  ⟨h1, h.2.trans (only_below h2 h.2.size (Nat.le_refl _))⟩
theorem Ww.new (w : World) (s : ByteArray) : Ww w (w.alloc (.cells #[.string s, .bool false] 72)) s (some 0) := by
  refine ⟨⟨Nat.zero_le _, ?_⟩, (Below.refl _ _).alloc (Nat.le_refl _) _⟩
  rw [ext_all]
  exact heap_alloc_new _ _
theorem ww_take (w0 : World) (s : ByteArray) (hs : s.size ≤ 140737488351232) (o : Option Nat) (n : Nat) (hn : n ≤ 1000000000000) (wx : World) (h : Ww w0 wx s o) :
    Calls Tryd.prog 51 #[.pointer (some ⟨w0.heap.size, 0, none⟩), .int .i64 (n : Int)] wx fun e w' => e = .returned (.string (takeT s o n)) ∧ Ww w0 w' s (takeO s o n) :=
  (take_any _ s hs o n hn wx h.1).mono fun e w' ⟨a, b, c⟩ => ⟨a, h.step b c⟩
theorem ww_number (w0 : World) (s : ByteArray) (hs : s.size ≤ 140737488351232) (o : Option Nat) (n : Nat) (hn : n ≤ 4) (wx : World) (h : Ww w0 wx s o) :
    Calls Tryd.prog 50 #[.pointer (some ⟨w0.heap.size, 0, none⟩), .int .i64 (n : Int)] wx fun e w' => e = .returned (.int .i64 (numO s o n : Int)) ∧ Ww w0 w' s (takeO s o n) :=
  (number_any _ s hs o n hn wx h.1).mono fun e w' ⟨a, b, c⟩ => ⟨a, h.step b c⟩
theorem ww_text (w0 : World) (s : ByteArray) (hs : s.size ≤ 140737488351232) (o : Option Nat) (wx : World) (h : Ww w0 wx s o) :
    Calls Tryd.prog 62 #[.pointer (some ⟨w0.heap.size, 0, none⟩)] wx fun e w' => (∃ u, e = .returned (.string u)) ∧ Ww w0 w' s (txtO s o) :=
  (text_any _ s hs o wx h.1).mono fun e w' ⟨a, b, c⟩ => ⟨a, h.step b c⟩
theorem ww_atEnd (w0 : World) (s : ByteArray) (o : Option Nat) (wx : World) (h : Ww w0 wx s o) :
    Calls Tryd.prog 61 #[.pointer (some ⟨w0.heap.size, 0, none⟩)] wx fun e w' => e = .returned (.bool (atE s o)) ∧ w' = wx := atEnd_any _ s o wx h.1
set_option maxRecDepth 20000 in
set_option maxHeartbeats 1600000 in
theorem pic_any (s : ByteArray) (hs : s.size ≤ 140737488351232) (w : World) :
    Calls Tryd.prog 49 #[.string s] w fun e w' => e = .returned (.bool (picB s)) ∧ Below w.heap.size w w' := by
  have H0 : Hid (Ww w (w.alloc (.cells #[.string s, .bool false] 72)) s (some 0)) := Ww.new w s
  have K4 : Hid (∀ wx, Ww w wx s (some 0) → Calls Tryd.prog 51 #[.pointer (some ⟨w.heap.size, 0, none⟩), .int .i64 4] wx fun e w' => e = .returned (.string (takeT s (some 0) 4)) ∧ Ww w w' s (takeO s (some 0) 4)) := ww_take w s hs _ 4 (by decide)
  have K16 : Hid (∀ o wx, Ww w wx s o → Calls Tryd.prog 51 #[.pointer (some ⟨w.heap.size, 0, none⟩), .int .i64 16] wx fun e w' => e = .returned (.string (takeT s o 16)) ∧ Ww w w' s (takeO s o 16)) := fun o => ww_take w s hs o 16 (by decide)
  have KT : Hid (∀ o wx, Ww w wx s o → _) := ww_text w s hs
  have KE : Hid (∀ o wx, Ww w wx s o → _) := ww_atEnd w s
  have HP : Hid (picB s = atE s (txtO s (takeO s (txtO s (txtO s (takeO s (some 0) 4))) 16))) := (pic_same s).symm
  go_enter Tryd.func49, Tryd.ntmps49
  go_wp2_with fail
  refine (K4.out _ H0.out).mono ?_
  rintro e w1 ⟨rfl, h1⟩
  have H1 : Hid (Ww w w1 s (takeO s (some 0) 4)) := h1
  generalize takeO s (some 0) 4 = o1 at *
  clear h1 K4 H0
  go_wp2_with fail
  refine (KT.out _ _ H1.out).mono ?_
  rintro e w2 ⟨⟨u, rfl⟩, h2⟩
  have H2 : Hid (Ww w w2 s (txtO s o1)) := h2
  generalize txtO s o1 = o2 at *
  clear h2 H1
  go_wp2_with fail
  refine (KT.out _ _ H2.out).mono ?_
  rintro e w3 ⟨⟨u3, rfl⟩, h3⟩
  have H3 : Hid (Ww w w3 s (txtO s o2)) := h3
  generalize txtO s o2 = o3 at *
  clear h3 H2
  go_wp2_with fail
  refine (K16.out _ _ H3.out).mono ?_
  rintro e w4 ⟨rfl, h4⟩
  have H4 : Hid (Ww w w4 s (takeO s o3 16)) := h4
  generalize takeO s o3 16 = o4 at *
  generalize takeT s o3 16 = u4 at *
  clear h4 H3 K16
  go_wp2_with fail
  refine (KT.out _ _ H4.out).mono ?_
  rintro e w5 ⟨⟨u5, rfl⟩, h5⟩
  have H5 : Hid (Ww w w5 s (txtO s o4)) := h5
  generalize txtO s o4 = o5 at *
  clear h5 H4 KT
  go_wp2_with fail
  refine (KE.out _ _ H5.out).mono ?_
  rintro e w6 ⟨rfl, rfl⟩
  clear KE
  go_wp2_with fail
  go_ret
  exact ⟨by rw [HP.out]; rfl, H5.out.2⟩
set_option maxRecDepth 20000 in
set_option maxHeartbeats 1600000 in
theorem cue_any (s : ByteArray) (hs : s.size ≤ 140737488351232) (w : World) :
    Calls Tryd.prog 48 #[.string s] w fun e w' => e = .returned (.bool (cueB s)) ∧ Below w.heap.size w w' := by
  have H0 : Hid (Ww w (w.alloc (.cells #[.string s, .bool false] 72)) s (some 0)) := Ww.new w s
  have K395 : Hid (∀ wx, Ww w wx s (some 0) → Calls Tryd.prog 51 #[.pointer (some ⟨w.heap.size, 0, none⟩), .int .i64 395] wx fun e w' => e = .returned (.string (takeT s (some 0) 395)) ∧ Ww w w' s (takeO s (some 0) 395)) := ww_take w s hs _ 395 (by decide)
  have K35 : Hid (∀ o wx, Ww w wx s o → Calls Tryd.prog 51 #[.pointer (some ⟨w.heap.size, 0, none⟩), .int .i64 35] wx fun e w' => e = .returned (.string (takeT s o 35)) ∧ Ww w w' s (takeO s o 35)) := fun o => ww_take w s hs o 35 (by decide)
  have KN : Hid (∀ o wx, Ww w wx s o → Calls Tryd.prog 50 #[.pointer (some ⟨w.heap.size, 0, none⟩), .int .i64 1] wx fun e w' => e = .returned (.int .i64 (numO s o 1 : Int)) ∧ Ww w w' s (takeO s o 1)) := fun o => ww_number w s hs o 1 (by decide)
  have KT : Hid (∀ o (n : Nat) wx, n ≤ 1000000000000 → Ww w wx s o → Calls Tryd.prog 51 #[.pointer (some ⟨w.heap.size, 0, none⟩), .int .i64 (n : Int)] wx fun e w' => e = .returned (.string (takeT s o n)) ∧ Ww w w' s (takeO s o n)) := fun o n wx hn => ww_take w s hs o n hn wx
  have KE : Hid (∀ o wx, Ww w wx s o → _) := ww_atEnd w s
  have HP : Hid (cueB s = (decide (1 ≤ numO s (takeO s (some 0) 395) 1 ∧ numO s (takeO s (some 0) 395) 1 ≤ 100) && atE s (trkO s (numO s (takeO s (some 0) 395) 1) (takeO s (takeO s (some 0) 395) 1)))) := (cue_same s).symm
  go_enter Tryd.func48, Tryd.ntmps48
  go_wp2_with fail
  refine (K395.out _ H0.out).mono ?_
  rintro e w1 ⟨rfl, h1⟩
  have H1 : Hid (Ww w w1 s (takeO s (some 0) 395)) := h1
  generalize takeO s (some 0) 395 = o1 at *
  generalize takeT s (some 0) 395 = u1 at *
  clear h1 K395 H0
  go_wp2_with fail
  refine (KN.out _ _ H1.out).mono ?_
  rintro e w2 ⟨rfl, h2⟩
  have H2 : Hid (Ww w w2 s (takeO s o1 1)) := h2
  have hv := numO_lt s o1 1 (by decide)
  generalize numO s o1 1 = T at *
  generalize takeO s o1 1 = o2 at *
  have hv : T < 256 := hv
  clear h2 H1
  by_cases hT : 1 ≤ T ∧ T ≤ 100
  · have HE : Hid (cueB s = atE s (trkO s T o2)) := HP.out.trans (by rw [decide_eq_true hT, Bool.true_and])
    obtain ⟨t1, t2⟩ := hT
    clear HP
    go_wp2_with fail
    go_loopw [16] (fun i wr => ∃ (k : Nat) (o : Option Nat), k ≤ T ∧ i = .int .i64 (k : Int) ∧ Ww w wr s o ∧ trkO s T o2 = trkO s (T - k) o) (fun i _ => T - (intOf i).toNat)
    case atStart => exact ⟨0, o2, Nat.zero_le _, rfl, H2.out, rfl⟩
    case round =>
      obtain ⟨k, o, hk, rfl, hw, ho⟩ := hrel
      have HW : Hid (Ww w wr s o) := hw
      have HO : Hid (trkO s T o2 = trkO s (T - k) o) := ho
      clear hw ho H2
      by_cases hlt : k < T
      · have HO2 : Hid (trkO s T o2 = trkO s (T - (k + 1)) (takeO s (takeO s (takeO s o 35) 1) (12 * numO s (takeO s o 35) 1))) := HO.out.trans (by rw [show T - k = (T - (k + 1)) + 1 by omega]; rfl)
        clear HO
        go_wp2_with fail
        refine (K35.out _ _ HW.out).mono ?_
        rintro e w3 ⟨rfl, h3⟩
        have H3 : Hid (Ww w w3 s (takeO s o 35)) := h3
        generalize takeO s o 35 = o3 at *
        generalize takeT s o 35 = u3 at *
        clear h3 HW K35
        go_wp2_with fail
        refine (KN.out _ _ H3.out).mono ?_
        rintro e w4 ⟨rfl, h4⟩
        have H4 : Hid (Ww w w4 s (takeO s o3 1)) := h4
        have hn := numO_lt s o3 1 (by decide)
        generalize numO s o3 1 = v at *
        generalize takeO s o3 1 = o4 at *
        have hn : v < 256 := hn
        have KT2 : Hid (∀ wx, Ww w wx s o4 → Calls Tryd.prog 51 #[.pointer (some ⟨w.heap.size, 0, none⟩), .int .i64 ((v : Int) * 12)] wx fun e w' => e = .returned (.string (takeT s o4 (12 * v))) ∧ Ww w w' s (takeO s o4 (12 * v))) := fun wx h => by
          have := KT.out o4 (12 * v) wx (by omega) h
          rwa [show ((12 * v : Nat) : Int) = (v : Int) * 12 by omega] at this
        clear h4 H3 KN KT
        go_wp2_with fail
        refine (KT2.out _ H4.out).mono ?_
        rintro e w5 ⟨rfl, h5⟩
        have H5 : Hid (Ww w w5 s (takeO s o4 (12 * v))) := h5
        generalize takeO s o4 (12 * v) = o5 at *
        generalize takeT s o4 (12 * v) = u5 at *
        clear h5 H4 KT2
        go_wp2_with fail
        go_roundw
        case rel => exact ⟨k + 1, o5, by omega, by go_num, H5.out, HO2.out⟩
        case measure => simp [intOf]; omega
      · have HE2 : Hid (cueB s = atE s o) := HE.out.trans (by rw [HO.out, show T - k = 0 by omega]; rfl)
        clear HO HE
        go_wp2_with fail
        refine (KE.out _ _ HW.out).mono ?_
        rintro e w6 ⟨rfl, rfl⟩
        clear KE
        go_wp2_with fail
        go_ret
        exact ⟨by rw [HE2.out]; rfl, HW.out.2⟩
  · have HE : Hid (cueB s = false) := HP.out.trans (by rw [decide_eq_false hT, Bool.false_and])
    have hT2 : (T : Int) < 1 ∨ (1 ≤ (T : Int) ∧ 100 < (T : Int)) := by omega
    clear HP hT
    rcases hT2 with h | ⟨h, h'⟩
    all_goals
      go_wp2_with fail
      go_ret
      exact ⟨by rw [HE.out]; rfl, H2.out.2⟩
abbrev blkC (b : Blk) : Array Value := #[.int .i64 b.ty, .string b.body]
abbrev blkV (b : Blk) : Value := .agg (blkC b)
theorem box_below (w : World) (o : Obj) : Below w.heap.size w (w.alloc o) := (Below.refl _ _).alloc (Nat.le_refl _) _
set_option maxRecDepth 20000 in
set_option maxHeartbeats 1600000 in
theorem form_any (b : Blk) (hs : b.body.size ≤ 140737488351232) (w : World) :
    Calls Tryd.prog 27 #[blkV b] w fun e w' => e = .returned (.bool (formB b)) ∧ Below w.heap.size w w' := by
  obtain ⟨ty, s⟩ := b
  have HB : Hid (Below w.heap.size w (w.alloc (.cells #[.int .i64 ty, .string s] 36))) := box_below _ _
  have kc := fun wx => cue_any s hs wx
  have kp := fun wx => pic_any s hs wx
  have hF : formB ⟨ty, s⟩ = (if ty = 2 then decide (4 ≤ s.size) else if ty = 3 then decide (s.size % 18 = 0) else if ty = 5 then cueB s else if ty = 6 then picB s else true) := rfl
  have hs' : s.size ≤ 140737488351232 := hs
  by_cases h2 : ty = 2
  · rw [if_pos h2] at hF
    have HF : Hid (formB ⟨ty, s⟩ = decide (4 ≤ (s.size : Int))) := hF.trans (by rw [decide_eq_decide]; omega)
    subst h2
    clear hF kc kp
    go_enter Tryd.func27, Tryd.ntmps27
    go_wp2_with fail
    go_ret
    exact ⟨by rw [HF.out]; first | rfl | simp, HB.out⟩
  · rw [if_neg h2] at hF
    have b2 : (ty == 2) = false := by rw [beq_eq_false_iff_ne]; exact h2
    by_cases h3 : ty = 3
    · rw [if_pos h3] at hF
      have HF : Hid (formB ⟨ty, s⟩ = ((s.size : Int) % 18 == 0)) := hF.trans (by rw [Bool.eq_iff_iff, decide_eq_true_iff, beq_iff_eq]; omega)
      subst h3
      clear hF kc kp h2 b2
      go_enter Tryd.func27, Tryd.ntmps27
      go_wp2_with fail
      go_ret
      exact ⟨by rw [HF.out]; first | rfl | simp, HB.out⟩
    · rw [if_neg h3] at hF
      have b3 : (ty == 3) = false := by rw [beq_eq_false_iff_ne]; exact h3
      by_cases h5 : ty = 5
      · rw [if_pos h5] at hF
        have HF : Hid (formB ⟨ty, s⟩ = cueB s) := hF
        subst h5
        generalize cueB s = v at *
        clear hF kp h2 h3 b2 b3
        go_enter Tryd.func27, Tryd.ntmps27
        go_wp2_with fail
        refine (kc _).mono ?_
        rintro e w2 ⟨rfl, hb⟩
        have HB2 : Hid (Below w.heap.size w w2) := HB.out.trans (hb.mono HB.out.size)
        clear hb
        go_wp2_with fail
        go_ret
        exact ⟨by rw [HF.out]; rfl, HB2.out⟩
      · rw [if_neg h5] at hF
        have b5 : (ty == 5) = false := by rw [beq_eq_false_iff_ne]; exact h5
        by_cases h6 : ty = 6
        · rw [if_pos h6] at hF
          have HF : Hid (formB ⟨ty, s⟩ = picB s) := hF
          subst h6
          generalize picB s = v at *
          clear hF kc h2 h3 h5 b2 b3 b5
          go_enter Tryd.func27, Tryd.ntmps27
          go_wp2_with fail
          refine (kp _).mono ?_
          rintro e w2 ⟨rfl, hb⟩
          have HB2 : Hid (Below w.heap.size w w2) := HB.out.trans (hb.mono HB.out.size)
          clear hb
          go_wp2_with fail
          go_ret
          exact ⟨by rw [HF.out]; rfl, HB2.out⟩
        · rw [if_neg h6] at hF
          have HF : Hid (formB ⟨ty, s⟩ = true) := hF
          have b6 : (ty == 6) = false := by rw [beq_eq_false_iff_ne]; exact h6
          clear hF kc kp h2 h3 h5 h6
          go_enter Tryd.func27, Tryd.ntmps27
          go_wp2_with fail
          go_ret
          exact ⟨by rw [HF.out]; rfl, HB.out⟩

end Go.Proofs.YtfmpiidnemhijaaDoor
