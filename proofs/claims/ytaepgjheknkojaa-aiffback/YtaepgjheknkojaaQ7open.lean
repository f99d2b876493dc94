/- Own text: the walk of open (aiff). -/
import Derived.Test.YtaepgjheknkojaaQ7small
import Derived.Test.YtaepgjheknkojaaG31x
import Derived.Test.YtaepgjheknkojaaQ6clone
import Derived.Deep.RegionHeld3
import Derived.Deep.RegionWith
import Derived.Deep.CutRange
namespace Go.Proofs.Ytaepgjheknkojaa
open Go.RowKit
set_option linter.unusedSimpArgs false
set_option linter.unusedVariables false

theorem aif_ret {wf : World} {b : Nat} {d : Array Value} (h : Box b d 27 wf) (hd : d.size = 2) (a' : Act) (n : Value) (h2 : a'.tmps.getD 2 undef = .pointer (some ⟨b, 0, none⟩)) (h3 : a'.tmps.getD 3 undef = n) :
    (results Try.f22 a'.tmps).run Try.prog wf = .ok (.tuple #[.agg d, n]) wf := by
  rw [res_two_cell rfl]
  have hld := run_loadVar_row (P := Try.prog) wf b 27 27 d (0, 0) _ h Try.underlying27 rfl (by rw [hd]; exact infoA)
  simp [h2, h3, asAddr, Result.andThen, hld]
/-- What open answers. -/
def GivesO (w : World) (s : ByteArray) (e : Ending) (w' : World) : Prop := ∃ f ao n cap, e = .returned (.tuple #[.agg #[.string f, .slice ao n cap], .int .i64 (opE s)]) ∧ Below w.heap.size w w' ∧ (opE s = 0 → f = opF s ∧ n = (opL s).length ∧ OwnC w.heap.size ao cap (opL s) w')
theorem head_eq (s : ByteArray) (h12 : 12 ≤ s.size) (hs : s.size ≤ 67108864) (hf : (s.extract 0 4).toList == formT.toList) : ((s.extract 0 12).toList == (headT7 (s.extract 8 12) (s.size : Int)).toList) = !(beI s 4 8 != (s.size : Int) - 8) := by
  have hf := eq_of_list _ _ hf
  have z4 : (s.extract 4 8).size = 4 := ext_size _ _ _ (by omega) (by omega)
  have hbt := beT_four ((s.size : Int) - 8) (by omega) (by omega)
  have e12 : s.extract 0 12 = formT ++ s.extract 4 8 ++ s.extract 8 12 := by
    rw [← hf]
    apply bytes_inj
    rw [bytesOf_append, bytesOf_append, bytes_ext, bytes_ext, bytes_ext, bytes_ext, List.drop_zero, List.drop_zero]
    have a1 : ((bytesOf s).take 8).drop 4 = ((bytesOf s).drop 4).take 4 := by rw [List.drop_take]
    have a2 : ((bytesOf s).take 12).drop 8 = ((bytesOf s).drop 8).take 4 := by rw [List.drop_take]
    rw [a1, a2, ← take_add, ← take_add]
  have key : (s.extract 0 12 = headT7 (s.extract 8 12) (s.size : Int)) ↔ beI s 4 8 = (s.size : Int) - 8 := by
    constructor
    · intro q
      rw [e12] at q
      unfold headT7 at q
      have q2 : (formT ++ s.extract 4 8 ++ s.extract 8 12).extract 4 8 = (formT ++ beT ((s.size : Int) - 8) 4 ++ s.extract 8 12).extract 4 8 := by rw [q]
      have hfz : formT.size = 4 := rfl
      rw [ext_left _ _ _ _ (by rw [ByteArray.size_append]; omega), ext_right _ _ _ _ (by omega), ext_left _ _ _ _ (by rw [ByteArray.size_append]; omega), ext_right _ _ _ _ (by omega), hfz] at q2
      rw [show (8 - 4 : Nat) = 4 from rfl, show (4 - 4 : Nat) = 0 from rfl, ext_all _ 4 z4, ext_all _ 4 hbt] at q2
      unfold beI
      rw [q2, sz_be4 _ (by omega) (by omega)]
    · intro q
      rw [e12]
      unfold headT7
      rw [← q]
      unfold beI
      rw [be_from4 _ z4]
  by_cases hq : beI s 4 8 = (s.size : Int) - 8
  · rw [key.2 hq, hq]
    simp
  · have hn : ¬ (s.extract 0 12 = headT7 (s.extract 8 12) (s.size : Int)) := fun q => hq (key.1 q)
    have h2 : (beI s 4 8 != (s.size : Int) - 8) = true := by simpa using hq
    rw [h2]
    cases q : (s.extract 0 12).toList == (headT7 (s.extract 8 12) (s.size : Int)).toList
    · rfl
    · exact absurd (eq_of_list _ _ q) hn

set_option maxRecDepth 20000 in
set_option maxHeartbeats 3200000 in
theorem open7_short (s : ByteArray) (w : World) (hs : s.size ≤ 140737488351232) (h : s.size < 12) :
    Calls Try.prog 22 #[.string s] w (GivesO w s) := by
  have HE : Hid (opE s = 3) := by show _ = _; unfold opE begB7; rw [decide_eq_true (by omega : (s.size : Int) < 12)]; rfl
  have hb : decide ((s.size : Int) < 12) = true := decide_eq_true (by omega)
  have HX0 : Hid (Box w.heap.size zeroW 27 (w.alloc (.cells zeroW 27)) ∧ Below w.heap.size w (w.alloc (.cells zeroW 27))) := ⟨Box.new _ _ _, belA _ _⟩
  go_enter Try.func22, Try.ntmps22
  go_wp2_with fail
  exact bodyPost_ret (v := .tuple #[.agg zeroW, .int .i64 3]) (aif_ret HX0.out.1 rfl _ _ rfl rfl) rfl ⟨⟨#[]⟩, none, 0, 0, by rw [HE.out], HX0.out.2, fun q => absurd (HE.out.symm.trans q) (by decide)⟩

set_option maxRecDepth 20000 in
set_option maxHeartbeats 3200000 in
theorem open7_noform (s : ByteArray) (w : World) (hs : s.size ≤ 140737488351232) (h : 12 ≤ s.size) (h1 : ((s.extract 0 4).toList == formT.toList) = false) :
    Calls Try.prog 22 #[.string s] w (GivesO w s) := by
  have HE : Hid (opE s = 3) := by show _ = _; unfold opE begB7; rw [decide_eq_false (by omega), h1]; rfl
  have hb : decide ((s.size : Int) < 12) = false := decide_eq_false (by omega)
  have sl4 : ∀ wx, (Instr.slice 9 (.string s) none (some (.int .i64 4)) none).run Try.prog wx = .ok (.string (s.extract 0 4)) wx := fun wx => slice_upto s 4 (by omega) wx
  have sl8 : ∀ wx, (Instr.slice 9 (.string s) (some (.int .i64 8)) (some (.int .i64 12)) none).run Try.prog wx = .ok (.string (s.extract 8 12)) wx := fun wx => ext_run s 8 12 (by decide) (by omega) wx
  have HX0 : Hid (Box w.heap.size zeroW 27 (w.alloc (.cells zeroW 27)) ∧ Below w.heap.size w (w.alloc (.cells zeroW 27))) := ⟨Box.new _ _ _, belA _ _⟩
  rw [form_list] at h1
  go_enter Try.func22, Try.ntmps22
  go_wp2_with fail
  exact bodyPost_ret (v := .tuple #[.agg zeroW, .int .i64 3]) (aif_ret HX0.out.1 rfl _ _ rfl rfl) rfl ⟨⟨#[]⟩, none, 0, 0, by rw [HE.out], HX0.out.2, fun q => absurd (HE.out.symm.trans q) (by decide)⟩

set_option maxRecDepth 20000 in
set_option maxHeartbeats 3200000 in
theorem open7_nokind (s : ByteArray) (w : World) (hs : s.size ≤ 140737488351232) (h : 12 ≤ s.size) (h1 : ((s.extract 0 4).toList == formT.toList) = true) (h2 : formB (s.extract 8 12) = false) :
    Calls Try.prog 22 #[.string s] w (GivesO w s) := by
  have HE : Hid (opE s = 3) := by show _ = _; unfold opE begB7; rw [decide_eq_false (by omega), h1, show ((s.extract 8 12).toList == aiffT.toList || (s.extract 8 12).toList == aifcT.toList) = false from h2]; rfl
  have hb : decide ((s.size : Int) < 12) = false := decide_eq_false (by omega)
  have sl4 : ∀ wx, (Instr.slice 9 (.string s) none (some (.int .i64 4)) none).run Try.prog wx = .ok (.string (s.extract 0 4)) wx := fun wx => slice_upto s 4 (by omega) wx
  have sl8 : ∀ wx, (Instr.slice 9 (.string s) (some (.int .i64 8)) (some (.int .i64 12)) none).run Try.prog wx = .ok (.string (s.extract 8 12)) wx := fun wx => ext_run s 8 12 (by decide) (by omega) wx
  have HX0 : Hid (Box w.heap.size zeroW 27 (w.alloc (.cells zeroW 27)) ∧ Below w.heap.size w (w.alloc (.cells zeroW 27))) := ⟨Box.new _ _ _, belA _ _⟩
  have kf := isForm_spec (s.extract 8 12)
  rw [h2] at kf
  rw [form_list] at h1
  go_enter Try.func22, Try.ntmps22
  go_wp2_with fail
  refine (kf _).mono ?_
  rintro e w2 ⟨rfl, rfl⟩
  clear kf
  go_wp2_with fail
  exact bodyPost_ret (v := .tuple #[.agg zeroW, .int .i64 3]) (aif_ret HX0.out.1 rfl _ _ rfl rfl) rfl ⟨⟨#[]⟩, none, 0, 0, by rw [HE.out], HX0.out.2, fun q => absurd (HE.out.symm.trans q) (by decide)⟩

set_option maxRecDepth 20000 in
set_option maxHeartbeats 3200000 in
theorem open7_large (s : ByteArray) (w : World) (hs : s.size ≤ 140737488351232) (h : 12 ≤ s.size) (h1 : ((s.extract 0 4).toList == formT.toList) = true) (h2 : formB (s.extract 8 12) = true) (h3 : 67108864 < s.size) :
    Calls Try.prog 22 #[.string s] w (GivesO w s) := by
  have hbeg : begB7 s = true := by unfold begB7; rw [decide_eq_false (by omega), h1]; exact h2
  have HE : Hid (opE s = 5) := by show _ = _; unfold opE; rw [hbeg, if_pos rfl, if_pos h3]
  have hb : decide ((s.size : Int) < 12) = false := decide_eq_false (by omega)
  have hc : decide ((67108864 : Int) < (s.size : Int)) = true := decide_eq_true (by omega)
  have sl4 : ∀ wx, (Instr.slice 9 (.string s) none (some (.int .i64 4)) none).run Try.prog wx = .ok (.string (s.extract 0 4)) wx := fun wx => slice_upto s 4 (by omega) wx
  have sl8 : ∀ wx, (Instr.slice 9 (.string s) (some (.int .i64 8)) (some (.int .i64 12)) none).run Try.prog wx = .ok (.string (s.extract 8 12)) wx := fun wx => ext_run s 8 12 (by decide) (by omega) wx
  have HX0 : Hid (Box w.heap.size zeroW 27 (w.alloc (.cells zeroW 27)) ∧ Below w.heap.size w (w.alloc (.cells zeroW 27))) := ⟨Box.new _ _ _, belA _ _⟩
  have kf := isForm_spec (s.extract 8 12)
  rw [h2] at kf
  rw [form_list] at h1
  go_enter Try.func22, Try.ntmps22
  go_wp2_with fail
  refine (kf _).mono ?_
  rintro e w2 ⟨rfl, rfl⟩
  clear kf
  go_wp2_with fail
  exact bodyPost_ret (v := .tuple #[.agg zeroW, .int .i64 5]) (aif_ret HX0.out.1 rfl _ _ rfl rfl) rfl ⟨⟨#[]⟩, none, 0, 0, by rw [HE.out], HX0.out.2, fun q => absurd (HE.out.symm.trans q) (by decide)⟩

set_option maxRecDepth 20000 in
set_option maxHeartbeats 3200000 in
theorem open7_head (s : ByteArray) (w : World) (hs : s.size ≤ 140737488351232) (h : 12 ≤ s.size) (h1 : ((s.extract 0 4).toList == formT.toList) = true) (h2 : formB (s.extract 8 12) = true) (h3 : s.size ≤ 67108864) (h4 : (beI s 4 8 != (s.size : Int) - 8) = true) :
    Calls Try.prog 22 #[.string s] w (GivesO w s) := by
  have hbeg : begB7 s = true := by unfold begB7; rw [decide_eq_false (by omega), h1]; exact h2
  have HE : Hid (opE s = 2) := by show _ = _; unfold opE; rw [hbeg, if_pos rfl, if_neg (by omega), h4]; rfl
  have hb : decide ((s.size : Int) < 12) = false := decide_eq_false (by omega)
  have hc : decide ((67108864 : Int) < (s.size : Int)) = false := decide_eq_false (by omega)
  have sl4 : ∀ wx, (Instr.slice 9 (.string s) none (some (.int .i64 4)) none).run Try.prog wx = .ok (.string (s.extract 0 4)) wx := fun wx => slice_upto s 4 (by omega) wx
  have sl8 : ∀ wx, (Instr.slice 9 (.string s) (some (.int .i64 8)) (some (.int .i64 12)) none).run Try.prog wx = .ok (.string (s.extract 8 12)) wx := fun wx => ext_run s 8 12 (by decide) (by omega) wx
  have sl12 : ∀ wx, (Instr.slice 9 (.string s) none (some (.int .i64 12)) none).run Try.prog wx = .ok (.string (s.extract 0 12)) wx := fun wx => slice_upto s 12 (by omega) wx
  have slr : ∀ wx, (Instr.slice 9 (.string s) (some (.int .i64 12)) none none).run Try.prog wx = .ok (.string (s.extract 12 s.size)) wx := fun wx => slice_from s 12 (by omega) wx
  have HX0 : Hid (Box w.heap.size zeroW 27 (w.alloc (.cells zeroW 27)) ∧ Below w.heap.size w (w.alloc (.cells zeroW 27))) := ⟨Box.new _ _ _, belA _ _⟩
  have kf := isForm_spec (s.extract 8 12)
  rw [h2] at kf
  have KH : Hid (∀ wx, Hid (Box w.heap.size zeroW 27 wx ∧ Below w.heap.size w wx) → Calls Try.prog 31 #[.string (s.extract 8 12), .int .i64 (s.size : Int)] wx fun e w' => e = .returned (.string (headT7 (s.extract 8 12) (s.size : Int))) ∧ Hid (Box w.heap.size zeroW 27 w' ∧ Below w.heap.size w w')) := fun wx hx =>
    (headOf_spec (s.extract 8 12) (s.size : Int) (by rw [ByteArray.size_extract]; omega) (by omega) (by omega) wx).mono fun e w' q => ⟨q.1, hx.out.1.next q.2, below_on hx.out.2 q.2⟩
  have hhd := head_eq s h h3 h1
  rw [form_list] at h1
  rw [h4] at hhd
  clear hbeg h4
  generalize headT7 (s.extract 8 12) (s.size : Int) = HT at *
  go_enter Try.func22, Try.ntmps22
  go_wp2_with fail
  refine (kf _).mono ?_
  rintro e w2 ⟨rfl, rfl⟩
  clear kf
  go_wp2_with fail
  generalize hw1 : World.alloc w _ = w1
  have HX1 : Hid (Box w.heap.size zeroW 27 w1 ∧ Below w.heap.size w w1) := by
    rw [← hw1]
    exact HX0.out
  have HD : Hid (Box w.heap.size zeroW 27 w1.drew ∧ Below w.heap.size w w1.drew) := ⟨HX1.out.1.next (belD _), below_on HX1.out.2 (belD _)⟩
  clear hw1 HX0 HX1
  go_region_held3 (fun wx => True) (trivial) ((go_at_call 31; refine (KH.out _ (by assumption)).mono ?_; rintro e w3 ⟨rfl, h3x⟩))
  have HX3 : Hid (Box w.heap.size zeroW 27 w3 ∧ Below w.heap.size w w3) := h3x
  clear h3x HD KH
  have r0 := HX3.out.1.c 0 _ rfl
  have z0 := HX3.out.1.z 0
  have r1 := HX3.out.1.c 1 _ rfl
  have z1 := HX3.out.1.z 1
  have HSM : Hid ((w3.setCell ⟨w.heap.size, 0, none⟩ (.string ⟨#[]⟩)).setCell ⟨w.heap.size, 1, none⟩ (.slice none 0 0) = w3) := by
    show _ = _
    rw [set_same7 HX3.out.1 rfl, set_same7 HX3.out.1 rfl]
  go_wp2_with fail
  rw [HSM.out]
  exact bodyPost_ret (v := .tuple #[.agg zeroW, .int .i64 2]) (aif_ret HX3.out.1 rfl _ _ rfl rfl) rfl ⟨⟨#[]⟩, none, 0, 0, by rw [HE.out], HX3.out.2, fun q => absurd (HE.out.symm.trans q) (by decide)⟩

set_option maxRecDepth 20000 in
set_option maxHeartbeats 3200000 in
theorem open7_main (s : ByteArray) (w : World) (hs : s.size ≤ 140737488351232) (h : 12 ≤ s.size) (h1 : ((s.extract 0 4).toList == formT.toList) = true) (h2 : formB (s.extract 8 12) = true) (h3 : s.size ≤ 67108864) (h4 : (beI s 4 8 != (s.size : Int) - 8) = false) :
    Calls Try.prog 22 #[.string s] w (GivesO w s) := by
  have hbeg : begB7 s = true := by unfold begB7; rw [decide_eq_false (by omega), h1]; exact h2
  have HE : Hid (opE s = (chunksN (s.extract 12 s.size) true).2) := by show _ = _; unfold opE; rw [hbeg, if_pos rfl, if_neg (by omega), h4]; rfl
  have HL : Hid (opL s = (chunksN (s.extract 12 s.size) true).1) := rfl
  have HF : Hid (opF s = s.extract 8 12) := rfl
  have hb : decide ((s.size : Int) < 12) = false := decide_eq_false (by omega)
  have hc : decide ((67108864 : Int) < (s.size : Int)) = false := decide_eq_false (by omega)
  have sl4 : ∀ wx, (Instr.slice 9 (.string s) none (some (.int .i64 4)) none).run Try.prog wx = .ok (.string (s.extract 0 4)) wx := fun wx => slice_upto s 4 (by omega) wx
  have sl8 : ∀ wx, (Instr.slice 9 (.string s) (some (.int .i64 8)) (some (.int .i64 12)) none).run Try.prog wx = .ok (.string (s.extract 8 12)) wx := fun wx => ext_run s 8 12 (by decide) (by omega) wx
  have sl12 : ∀ wx, (Instr.slice 9 (.string s) none (some (.int .i64 12)) none).run Try.prog wx = .ok (.string (s.extract 0 12)) wx := fun wx => slice_upto s 12 (by omega) wx
  have slr : ∀ wx, (Instr.slice 9 (.string s) (some (.int .i64 12)) none none).run Try.prog wx = .ok (.string (s.extract 12 s.size)) wx := fun wx => slice_from s 12 (by omega) wx
  have HX0 : Hid (Box w.heap.size zeroW 27 (w.alloc (.cells zeroW 27)) ∧ Below w.heap.size w (w.alloc (.cells zeroW 27))) := ⟨Box.new _ _ _, belA _ _⟩
  have kf := isForm_spec (s.extract 8 12)
  rw [h2] at kf
  have KH : Hid (∀ wx, Hid (Box w.heap.size zeroW 27 wx ∧ Below w.heap.size w wx) → Calls Try.prog 31 #[.string (s.extract 8 12), .int .i64 (s.size : Int)] wx fun e w' => e = .returned (.string (headT7 (s.extract 8 12) (s.size : Int))) ∧ Hid (Box w.heap.size zeroW 27 w' ∧ Below w.heap.size w w')) := fun wx hx =>
    (headOf_spec (s.extract 8 12) (s.size : Int) (by rw [ByteArray.size_extract]; omega) (by omega) (by omega) wx).mono fun e w' q => ⟨q.1, hx.out.1.next q.2, below_on hx.out.2 q.2⟩
  have hhd := head_eq s h h3 h1
  rw [form_list] at h1
  rw [h4] at hhd
  clear hbeg h4
  have KC : Hid (∀ wx, Calls Try.prog 48 #[.string (s.extract 12 s.size), .bool true] wx fun e w' => ∃ ao cap, e = .returned (.tuple #[.slice ao (chunksN (s.extract 12 s.size) true).1.length cap, .int .i64 (chunksN (s.extract 12 s.size) true).2]) ∧ OwnC wx.heap.size ao cap (chunksN (s.extract 12 s.size) true).1 w' ∧ Below wx.heap.size wx w') := fun wx => by
    have k := chunks_own (s.extract 12 s.size) true wx (by rw [ByteArray.size_extract]; omega)
    rw [chunk_all] at k
    exact k
  have KL := clone_spec (s.extract 8 12)
  have hcl : (s.extract 8 12).size ≤ 281474976710656 := by rw [ByteArray.size_extract]; omega
  generalize headT7 (s.extract 8 12) (s.size : Int) = HT at *
  generalize chunksN (s.extract 12 s.size) true = CN at *
  obtain ⟨L, E⟩ := CN
  simp only at HE HL KC
  go_enter Try.func22, Try.ntmps22
  go_wp2_with fail
  refine (kf _).mono ?_
  rintro e w2 ⟨rfl, rfl⟩
  clear kf
  go_wp2_with fail
  generalize hw1 : World.alloc w _ = w1
  have HX1 : Hid (Box w.heap.size zeroW 27 w1 ∧ Below w.heap.size w w1) := by
    rw [← hw1]
    exact HX0.out
  have HD : Hid (Box w.heap.size zeroW 27 w1.drew ∧ Below w.heap.size w w1.drew) := ⟨HX1.out.1.next (belD _), below_on HX1.out.2 (belD _)⟩
  clear hw1 HX0 HX1
  go_region_held3 (fun wx => True) (trivial) ((go_at_call 31; refine (KH.out _ (by assumption)).mono ?_; rintro e w3 ⟨rfl, h3x⟩))
  have HX3 : Hid (Box w.heap.size zeroW 27 w3 ∧ Below w.heap.size w w3) := h3x
  clear h3x HD KH
  go_wp2_with fail
  refine (KL w3 hcl).mono ?_
  rintro e w4 ⟨rfl, hB4⟩
  have HX4 : Hid (Box w.heap.size zeroW 27 w4 ∧ Below w.heap.size w w4) := ⟨HX3.out.1.next hB4, below_on HX3.out.2 hB4⟩
  clear KL hB4 HX3 hcl
  have r0 := HX4.out.1.c 0 _ rfl
  have z0 := HX4.out.1.z 0
  have r1 := HX4.out.1.c 1 _ rfl
  have z1 := HX4.out.1.z 1
  have HX5 : Hid (Box w.heap.size #[.string (s.extract 8 12), .slice none 0 0] 27 (w4.setCell ⟨w.heap.size, 0, none⟩ (.string (s.extract 8 12))) ∧ Below w.heap.size w (w4.setCell ⟨w.heap.size, 0, none⟩ (.string (s.extract 8 12)))) := ⟨HX4.out.1.set 0 (.string (s.extract 8 12)), HX4.out.2.setCell (Nat.le_refl _) _⟩
  go_wp2_with fail
  generalize w4.setCell ⟨w.heap.size, 0, none⟩ (.string (s.extract 8 12)) = w5 at *
  refine (KC.out _).mono ?_
  rintro e w6 ⟨ao, cap, rfl, ho6, hB6⟩
  have HX6 : Hid (Box w.heap.size #[.string (s.extract 8 12), .slice none 0 0] 27 w6 ∧ Below w.heap.size w w6) := ⟨HX5.out.1.next hB6, below_on HX5.out.2 hB6⟩
  have HO6 : Hid (OwnC w5.heap.size ao cap L w6 ∧ w.heap.size < w5.heap.size) := ⟨ho6, HX5.out.1.lt⟩
  clear KC hB6 HX5 HX4 ho6 r0 r1 z0 z1
  have r0 := HX6.out.1.c 0 _ rfl
  have z0 := HX6.out.1.z 0
  have r1 := HX6.out.1.c 1 _ rfl
  have z1 := HX6.out.1.z 1
  have HX7 : Hid (Box w.heap.size #[.string (s.extract 8 12), .slice ao L.length cap] 27 (w6.setCell ⟨w.heap.size, 1, none⟩ (.slice ao L.length cap)) ∧ Below w.heap.size w (w6.setCell ⟨w.heap.size, 1, none⟩ (.slice ao L.length cap)) ∧ OwnC w.heap.size ao cap L (w6.setCell ⟨w.heap.size, 1, none⟩ (.slice ao L.length cap))) := ⟨HX6.out.1.set 1 (.slice ao L.length cap), HX6.out.2.setCell (Nat.le_refl _) _, (HO6.out.1.other (a := ⟨w.heap.size, 1, none⟩) HO6.out.2 _).mono (Nat.le_of_lt HO6.out.2)⟩
  go_upto_region 9 with fail
  generalize w6.setCell ⟨w.heap.size, 1, none⟩ (.slice ao L.length cap) = w7 at *
  clear HX6 HO6 r0 r1 z0 z1
  have r0 := HX7.out.1.c 0 _ rfl
  have z0 := HX7.out.1.z 0
  have r1 := HX7.out.1.c 1 _ rfl
  have z1 := HX7.out.1.z 1
  have HSM : Hid ((w7.setCell ⟨w.heap.size, 0, none⟩ (.string (s.extract 8 12))).setCell ⟨w.heap.size, 1, none⟩ (.slice ao L.length cap) = w7) := by
    show _ = _
    rw [set_same7 HX7.out.1 rfl, set_same7 HX7.out.1 rfl]
  go_wp2_with fail
  rw [HSM.out]
  exact bodyPost_ret (v := .tuple #[.agg #[.string (s.extract 8 12), .slice ao L.length cap], .int .i64 E]) (aif_ret HX7.out.1 rfl _ _ rfl rfl) rfl ⟨s.extract 8 12, ao, L.length, cap, by rw [HE.out], HX7.out.2.1, fun _ => ⟨HF.out.symm, by rw [HL.out], by rw [HL.out]; exact HX7.out.2.2⟩⟩

theorem open7_spec (s : ByteArray) (w : World) (hs : s.size ≤ 140737488351232) : Calls Try.prog 22 #[.string s] w (GivesO w s) := by
  by_cases h : 12 ≤ s.size
  · cases h1 : (s.extract 0 4).toList == formT.toList
    · exact open7_noform s w hs h h1
    · cases h2 : formB (s.extract 8 12)
      · exact open7_nokind s w hs h h1 h2
      · by_cases h3 : 67108864 < s.size
        · exact open7_large s w hs h h1 h2 h3
        · cases h4 : beI s 4 8 != (s.size : Int) - 8
          · exact open7_main s w hs h h1 h2 (by omega) h4
          · exact open7_head s w hs h h1 h2 (by omega) h4
  · exact open7_short s w hs (by omega)

end Go.Proofs.Ytaepgjheknkojaa
