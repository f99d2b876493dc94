/- Own text: soundOf (aiff), its first ends. -/
import Derived.Test.YtaepgjheknkojaaGreatQ7small
import Derived.Test.YtaepgjheknkojaaGreatG26x
import Derived.Deep.RegionWith
import Derived.Deep.CutRange
import Derived.Deep.RegionHeld3
namespace Go.Proofs.YtaepgjheknkojaaGreat
open Go.RowKit
set_option linter.unusedSimpArgs false
set_option linter.unusedVariables false

theorem snd_ret7 {wf : World} {b : Nat} {d : Array Value} (h : Box b d 68 wf) (hd : d.size = 5) (a' : Act) (n : Value) (h2 : a'.tmps.getD 4 undef = .pointer (some ⟨b, 0, none⟩)) (h3 : a'.tmps.getD 5 undef = n) :
    (results Tryz.f56 a'.tmps).run Tryz.prog wf = .ok (.tuple #[.agg d, n]) wf := by
  rw [res_two_cell rfl]
  have hld := run_loadVar_row (P := Tryz.prog) wf b 68 68 d (0, 0) _ h Tryz.underlying68 rfl (by rw [hd]; exact infoS7)
  simp [h2, h3, asAddr, Result.andThen, hld]
theorem againE_com (s : ByteArray) (c : Bool) : againE (comX s c) = if beI s 0 2 == 0 then 2 else if decide (8 < beI s 0 2) || !wdB (beI s 6 8) then 3 else if decide (1048576 < beI s 2 6) then 5 else 0 := by
  unfold againE comX
  rfl
/-- comm's error, in soundOf's order. -/
theorem comE_eq (s : ByteArray) (c : Bool) : comE s c = if wholeB s c then (if (kindT s c).toList != noneT.toList && (kindT s c).toList != sowtT.toList then 3 else if ((frV (bytesOf (s.extract 8 18))).2 : Int) != 0 then ((frV (bytesOf (s.extract 8 18))).2 : Int) else againE (comX s c)) else 2 := by
  have hr := beI_range s 6 8 (by omega)
  have hw : (beI s 6 8 % 8 != 0 || (decide (beI s 6 8 < 8) || decide (32 < beI s 6 8))) = !wdB (beI s 6 8) := by
    unfold wdB
    generalize beI s 6 8 = x at *
    by_cases h : x = 8 ∨ x = 16 ∨ x = 24 ∨ x = 32
    · rcases h with rfl | rfl | rfl | rfl <;> decide
    · have e1 : (x == 8 || (x == 16 || (x == 24 || x == 32))) = false := by
        rw [Bool.or_eq_false_iff, Bool.or_eq_false_iff, Bool.or_eq_false_iff, beq_eq_false_iff_ne, beq_eq_false_iff_ne, beq_eq_false_iff_ne, beq_eq_false_iff_ne]
        omega
      rw [e1, Bool.eq_iff_iff]
      simp
      omega
  cases c
  · have e : wholeB s false = !((s.size : Int) != 18) := by
      unfold wholeB
      rw [if_neg (by decide), Bool.eq_iff_iff]
      simp
      omega
    unfold comE
    rw [e, hw, againE_com]
    clear e hw hr
    generalize frV (bytesOf (s.extract 8 18)) = FR at *
    generalize beI s 0 2 = b1 at *
    generalize beI s 2 6 = b2 at *
    generalize wdB (beI s 6 8) = b3 at *
    cases h : (s.size : Int) != 18
    · have n1 : ((kindT s false).toList != noneT.toList) = false := by
        show (noneT.toList != noneT.toList) = false
        simp
      rw [n1]
      simp only [Bool.not_false, Bool.true_and, Bool.false_and, Bool.or_self, Bool.false_eq_true, if_false, if_true]
    · simp only [Bool.not_false, Bool.true_and, Bool.false_and, Bool.or_false, Bool.true_or, Bool.not_true, Bool.false_eq_true, if_false, if_true]
  · have e : wholeB s true = (!decide ((s.size : Int) < 23) && !((s.size : Int) != (comN s : Int))) := by
      unfold wholeB
      rw [if_pos rfl, Bool.eq_iff_iff]
      simp
      omega
    unfold comE
    rw [e, hw, againE_com]
    clear e hw hr
    generalize frV (bytesOf (s.extract 8 18)) = FR at *
    generalize beI s 0 2 = b1 at *
    generalize beI s 2 6 = b2 at *
    generalize wdB (beI s 6 8) = b3 at *
    cases h : decide ((s.size : Int) < 23)
    · cases h2 : (s.size : Int) != (comN s : Int)
      · simp only [Bool.not_true, Bool.not_false, Bool.true_and, Bool.false_and, Bool.or_self, Bool.false_eq_true, if_false, if_true]
        show _ = if (s.extract 18 22).toList != noneT.toList && (s.extract 18 22).toList != sowtT.toList then _ else _
        rfl
      · simp only [Bool.not_true, Bool.not_false, Bool.true_and, Bool.and_true, Bool.and_false, Bool.false_and, Bool.or_self, Bool.false_eq_true, if_false, if_true]
    · simp only [Bool.not_true, Bool.not_false, Bool.true_and, Bool.and_true, Bool.and_false, Bool.false_and, Bool.or_true, Bool.false_eq_true, if_false, if_true]
theorem comX_lit (s : ByteArray) (c : Bool) : (comX s c).lit = ((kindT s c).toList == sowtT.toList) := by
  cases c
  · show false = (noneT.toList == sowtT.toList)
    rw [none_list, sowt_list]
    decide
  · rfl
theorem whole_size (s : ByteArray) (c : Bool) (h : wholeB s c = true) : 18 ≤ s.size ∧ (c = true → 22 ≤ s.size) := by
  unfold wholeB at h
  cases c
  · rw [if_neg (by decide)] at h
    have := of_decide_eq_true h
    exact ⟨by omega, fun q => by cases q⟩
  · rw [if_pos rfl] at h
    have := of_decide_eq_true (Bool.and_eq_true_iff.1 h).1
    exact ⟨by omega, fun _ => by omega⟩

set_option maxRecDepth 20000 in
set_option maxHeartbeats 3200000 in
theorem soundOf7_whole (f s : ByteArray) (hs : s.size ≤ 140737488351232) (h1 : wholeB s (kB f) = false) (w : World) :
    Calls Tryz.prog 56 #[.string f, .string s] w fun e w' => e = .returned (.tuple #[.agg (sndC7 (comR s (kB f))), .int .i64 (comE s (kB f))]) ∧ Below w.heap.size w w' := by
  have HE : Hid (comE s (kB f) = 2) := by show _ = _; rw [comE_eq, h1]; rfl
  have HR : Hid (comR s (kB f) = noCom) := if_neg (by rw [HE.out]; decide)
  have HX0 : Hid (Box w.heap.size zeroS7 68 (w.alloc (.cells zeroS7 68)) ∧ Below w.heap.size w (w.alloc (.cells zeroS7 68))) := ⟨Box.new _ _ _, belA _ _⟩
  have kw := isWhole_spec f s hs
  rw [h1] at kw
  go_enter Tryz.func56, Tryz.ntmps56
  go_wp2_with fail
  refine (kw _).mono ?_
  rintro e w2 ⟨rfl, rfl⟩
  clear kw
  go_wp2_with fail
  exact bodyPost_ret (v := .tuple #[.agg zeroS7, .int .i64 (2)]) (snd_ret7 HX0.out.1 rfl _ _ rfl rfl) rfl ⟨by rw [HR.out, HE.out]; rfl, HX0.out.2⟩

set_option maxRecDepth 20000 in
set_option maxHeartbeats 3200000 in
theorem soundOf7_kind (f s : ByteArray) (hs : s.size ≤ 140737488351232) (h1 : wholeB s (kB f) = true) (h2 : ((kindT s (kB f)).toList == noneT.toList) = false) (h3 : ((kindT s (kB f)).toList == sowtT.toList) = false) (w : World) :
    Calls Tryz.prog 56 #[.string f, .string s] w fun e w' => e = .returned (.tuple #[.agg (sndC7 (comR s (kB f))), .int .i64 (comE s (kB f))]) ∧ Below w.heap.size w w' := by
  have HE : Hid (comE s (kB f) = 3) := by show _ = _; rw [comE_eq, h1]; simp only [bne, h2, h3]; rfl
  have HR : Hid (comR s (kB f) = noCom) := if_neg (by rw [HE.out]; decide)
  have HX0 : Hid (Box w.heap.size zeroS7 68 (w.alloc (.cells zeroS7 68)) ∧ Below w.heap.size w (w.alloc (.cells zeroS7 68))) := ⟨Box.new _ _ _, belA _ _⟩
  have hz := whole_size s (kB f) h1
  have kw := isWhole_spec f s hs
  rw [h1] at kw
  have kc := compOf_spec f s hz.2
  rw [none_list] at h2
  rw [sowt_list] at h3
  generalize kindT s (kB f) = KT at *
  clear hz
  go_enter Tryz.func56, Tryz.ntmps56
  go_wp2_with fail
  refine (kw _).mono ?_
  rintro e w2 ⟨rfl, rfl⟩
  clear kw
  go_wp2_with fail
  refine (kc _).mono ?_
  rintro e w2 ⟨rfl, rfl⟩
  clear kc
  go_wp2_with fail
  exact bodyPost_ret (v := .tuple #[.agg zeroS7, .int .i64 (3)]) (snd_ret7 HX0.out.1 rfl _ _ rfl rfl) rfl ⟨by rw [HR.out, HE.out]; rfl, HX0.out.2⟩

/-- soundOf's boxes: the answer's, and what was read. -/
structure Jsx (w0 : World) (Q : Nat) (x : Com) (w : World) : Prop where
  res : Box w0.heap.size zeroS7 68 w
  bx : Box Q (sndC7 x) 68 w
  below : Below w0.heap.size w0 w
theorem Jsx.next {w0 w w1 : World} {Q : Nat} {x : Com} (h : Jsx w0 Q x w) (hB : Below w.heap.size w w1) : Jsx w0 Q x w1 := ⟨h.res.next hB, h.bx.next hB, below_on h.below hB⟩
theorem Jsx.new {w0 w : World} (hr : Box w0.heap.size zeroS7 68 w) (hB : Below w0.heap.size w0 w) (x : Com) : Jsx w0 w.heap.size x (w.alloc (.cells (sndC7 x) 68)).drew :=
  ⟨(hr.next (belA w _)).next (belD _), (Box.new w _ _).next (belD _), below_on (below_on hB (belA w _)) (belD _)⟩

end Go.Proofs.YtaepgjheknkojaaGreat
