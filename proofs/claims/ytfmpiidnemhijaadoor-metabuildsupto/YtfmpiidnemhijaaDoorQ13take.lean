/- Own text: a walk through a text; the walks of take, number, text, isAtEnd. -/
import Derived.Test.YtfmpiidnemhijaaDoorP13back
import Derived.Test.YtfmpiidnemhijaaDoorRcalls
import Derived.Test.YtfmpiidnemhijaaDoorRows
import Derived.Deep.QuietTactic
import Derived.BigQuiet
import Derived.Outline
import Derived.Deep.RegionWith
import Derived.Deep.RegionHeld3
import Derived.BigRegion
namespace Go.Proofs.YtfmpiidnemhijaaDoor
open Go.RowKit
set_option linter.unusedSimpArgs false
set_option linter.unusedVariables false

/-- A walk through a text: what is left of it, from a place on; it may have failed. -/
def WkAt (w : World) (x : Nat) (r : ByteArray) (f : Bool) : Prop := w.heap[x]? = some (.cells #[.string r, .bool f] 72 (0, 0))
def Wo (w : World) (x : Nat) (s : ByteArray) (o : Option Nat) : Prop := match o with
  | some a => a ≤ s.size ∧ WkAt w x (s.extract a s.size) false
  | none => ∃ r, WkAt w x r true
section
variable {w w' : World} {x : Nat} {r : ByteArray} {f : Bool} {s : ByteArray} {o : Option Nat}
theorem WkAt.c0 (h : WkAt w x r f) : w.cell? ⟨x, 0, none⟩ = some (.string r) := by unfold WkAt at h; simp [World.cell?, h]
theorem WkAt.c1 (h : WkAt w x r f) : w.cell? ⟨x, 1, none⟩ = some (.bool f) := by unfold WkAt at h; simp [World.cell?, h]
theorem WkAt.fz (h : WkAt w x r f) (j : Nat) : w.frozen? ⟨x, j, none⟩ = false := by unfold WkAt at h; simp [World.frozen?, h]
theorem WkAt.fail (h : WkAt w x r f) : WkAt (w.setCell ⟨x, 1, none⟩ (.bool true)) x r true := by
  unfold WkAt at h ⊢
  rw [block_setCell w x 1 _ _ _ h]
  simp
theorem WkAt.step (h : WkAt w x r f) (q : ByteArray) : WkAt (w.setCell ⟨x, 0, none⟩ (.string q)) x q f := by
  unfold WkAt at h ⊢
  rw [block_setCell w x 0 _ _ _ h]
  simp
theorem WkAt.keep (h : WkAt w x r f) (hb : w'.heap[x]? = w.heap[x]?) : WkAt w' x r f := by
  unfold WkAt at h ⊢
  rw [hb]
  exact h
theorem WkAt.lt (h : WkAt w x r f) : x < w.heap.size := lt_of_block h
theorem Wo.lt (h : Wo w x s o) : x < w.heap.size := by
  cases o with
  | none => obtain ⟨r, h⟩ := h; exact h.lt
  | some a => exact h.2.lt
theorem Wo.keep (h : Wo w x s o) (hb : w'.heap[x]? = w.heap[x]?) : Wo w' x s o := by
  cases o with
  | none => obtain ⟨r, h⟩ := h; exact ⟨r, h.keep hb⟩
  | some a => exact ⟨h.1, h.2.keep hb⟩
theorem Wo.below (h : Wo w x s o) (hb : Below w.heap.size w w') : Wo w' x s o := h.keep (hb.block _ h.lt)
/-- Whether it has failed. -/
def bad (o : Option Nat) : Bool := match o with
  | some _ => false
  | none => true
theorem Wo.cells (h : Wo w x s o) : ∃ r, w.cell? ⟨x, 0, none⟩ = some (.string r) ∧ w.cell? ⟨x, 1, none⟩ = some (.bool (bad o)) := by
  cases o with
  | none => obtain ⟨r, h⟩ := h; exact ⟨r, h.c0, h.c1⟩
  | some a => exact ⟨_, h.2.c0, h.2.c1⟩
end
theorem slice_upto (s : ByteArray) (n : Nat) (h : n ≤ s.size) (w : World) : (Instr.slice 9 (.string s) none (some (.int .i64 (n : Int))) none).run Tryd.prog w = .ok (.string (s.extract 0 n)) w := by
  have := run_slice_string_h (P := Tryd.prog) (w := w) (t := 9) (s := s) Tryd.underlying9 .i64 (n : Int) (by omega) (by omega)
  simpa using this
theorem slice_from (s : ByteArray) (n : Nat) (h : n ≤ s.size) (w : World) : (Instr.slice 9 (.string s) (some (.int .i64 (n : Int))) none none).run Tryd.prog w = .ok (.string (s.extract n s.size)) w := by
  have := run_slice_string_l (P := Tryd.prog) (w := w) (t := 9) (s := s) Tryd.underlying9 .i64 (n : Int) (by omega) (by omega)
  simpa using this
theorem slice_run (s : ByteArray) (a b : Nat) (h1 : a ≤ b) (h2 : b ≤ s.size) (w : World) : (Instr.slice 9 (.string s) (some (.int .i64 (a : Int))) (some (.int .i64 (b : Int))) none).run Tryd.prog w = .ok (.string (s.extract a b)) w := by
  have := run_slice_string (P := Tryd.prog) w 9 s .i64 .i64 (a : Int) (b : Int) Tryd.underlying9 (by omega) (by omega) (by omega)
  simpa using this
theorem ext_ext (s : ByteArray) (a n : Nat) (h : a + n ≤ s.size) : (s.extract a s.size).extract 0 n = s.extract a (a + n) := by
  apply bytes_inj
  rw [bytesOf_ext, bytesOf_ext, bytesOf_ext, List.drop_zero, List.take_of_length_le (l := bytesOf s) (by rw [bytesOf_length]; exact Nat.le_refl _), List.drop_take]
  congr 1
  omega
theorem ext_from (s : ByteArray) (a n : Nat) (h : a + n ≤ s.size) : (s.extract a s.size).extract n (s.size - a) = s.extract (a + n) s.size := by
  apply bytes_inj
  rw [bytesOf_ext, bytesOf_ext, bytesOf_ext, List.take_of_length_le (l := bytesOf s) (by rw [bytesOf_length]; exact Nat.le_refl _), List.take_of_length_le (by rw [List.length_drop, bytesOf_length]; exact Nat.le_refl _), List.drop_drop]
set_option maxRecDepth 20000 in
set_option maxHeartbeats 1600000 in
theorem take_any (x : Nat) (s : ByteArray) (hs : s.size ≤ 140737488351232) (o : Option Nat) (n : Nat) (hn : n ≤ 1000000000000) (w : World) (h : Wo w x s o) :
    Calls Tryd.prog 51 #[.pointer (some ⟨x, 0, none⟩), .int .i64 (n : Int)] w fun e w' => e = .returned (.string (takeT s o n)) ∧ Wo w' x s (takeO s o n) ∧ Stays (only x) w w' := by
  cases o with
  | none =>
    obtain ⟨r, h⟩ := h
    have c1 := h.c1
    have fz := h.fz 1
    have HE : Hid (Wo (w.setCell ⟨x, 1, none⟩ (.bool true)) x s none) := ⟨r, h.fail⟩
    clear h
    go_enter Tryd.func51, Tryd.ntmps51
    go_wp2_with fail
    go_ret
    exact ⟨rfl, HE.out, (Stays.refl _ _).setCell _ _ (.inl rfl)⟩
  | some a =>
    obtain ⟨ha, h⟩ := h
    have c0 := h.c0
    have c1 := h.c1
    have fz := h.fz 1
    have f0 := h.fz 0
    have hsz : (s.extract a s.size).size = s.size - a := by rw [ext_len _ _ _ ha (Nat.le_refl _)]
    by_cases hle : a + n ≤ s.size
    · have s1 := slice_upto (s.extract a s.size) n (by omega)
      have s2 := slice_from (s.extract a s.size) n (by omega)
      rw [ext_ext s a n hle] at s1
      rw [hsz, ext_from s a n hle] at s2
      obtain ⟨e1, e2, _⟩ := takeO_yes hle
      have HE : Hid (Wo (w.setCell ⟨x, 0, none⟩ (.string (s.extract (a + n) s.size))) x s (takeO s (some a) n)) := by
        rw [e1]
        exact ⟨hle, h.step _⟩
      have HT : Hid (takeT s (some a) n = s.extract a (a + n)) := e2
      clear h e1 e2
      have hgt : ¬ ((s.size - a : Nat) : Int) < (n : Int) := by omega
      generalize s.extract a s.size = R at *
      generalize s.extract (a + n) s.size = R2 at *
      generalize s.extract a (a + n) = R3 at *
      rw [← hsz] at hgt
      have hrs : R.size ≤ 140737488351232 := by omega
      clear hsz hs ha hle
      go_enter Tryd.func51, Tryd.ntmps51
      go_wp2_with fail
      go_ret
      exact ⟨by rw [HT.out]; rfl, HE.out, (Stays.refl _ _).setCell _ _ (.inl rfl)⟩
    · have HE : Hid (Wo (w.setCell ⟨x, 1, none⟩ (.bool true)) x s (takeO s (some a) n)) := by
        rw [takeO_no hle]
        exact ⟨_, h.fail⟩
      have HT : Hid (takeT s (some a) n = ⟨#[]⟩) := by
        show takeT s (some a) n = ⟨#[]⟩
        unfold takeT
        simp only [if_neg hle]
      have hgt : ((s.size - a : Nat) : Int) < (n : Int) := by omega
      generalize s.extract a s.size = R at *
      rw [← hsz] at hgt
      have hrs : R.size ≤ 140737488351232 := by omega
      clear h hsz hs ha hle
      go_enter Tryd.func51, Tryd.ntmps51
      go_wp2_with fail
      go_ret
      exact ⟨by rw [HT.out]; rfl, HE.out, (Stays.refl _ _).setCell _ _ (.inl rfl)⟩
set_option maxRecDepth 20000 in
set_option maxHeartbeats 1600000 in
theorem number_any (x : Nat) (s : ByteArray) (hs : s.size ≤ 140737488351232) (o : Option Nat) (k : Nat) (hk : k ≤ 4) (w : World) (h : Wo w x s o) :
    Calls Tryd.prog 50 #[.pointer (some ⟨x, 0, none⟩), .int .i64 (k : Int)] w fun e w' => e = .returned (.int .i64 (numO s o k : Int)) ∧ Wo w' x s (takeO s o k) ∧ Stays (only x) w w' := by
  have kt := take_any x s hs o k (by omega) w h
  have hl := takeT_le s o k
  have kf := fun w => S2.fromBe_spec (takeT s o k) (by omega) w
  rw [numO_be s o k hk] at kf
  generalize takeT s o k = R at *
  generalize numO s o k = v at *
  generalize takeO s o k = o' at *
  clear h hl
  go_enter Tryd.func50, Tryd.ntmps50
  go_wp2_with fail
  refine kt.mono ?_
  rintro e w1 ⟨rfl, h1, h2⟩
  have H1 : Hid (Wo w1 x s o') := h1
  have H2 : Hid (Stays (only x) w w1) := h2
  clear h1 h2 kt
  go_wp2_with fail
  refine (kf w1).mono ?_
  rintro e w2 ⟨rfl, rfl⟩
  go_wp2_with fail
  go_ret
  exact ⟨rfl, H1.out, H2.out⟩
set_option maxRecDepth 20000 in
set_option maxHeartbeats 1600000 in
theorem text_any (x : Nat) (s : ByteArray) (hs : s.size ≤ 140737488351232) (o : Option Nat) (w : World) (h : Wo w x s o) :
    Calls Tryd.prog 62 #[.pointer (some ⟨x, 0, none⟩)] w fun e w' => (∃ u, e = .returned (.string u)) ∧ Wo w' x s (txtO s o) ∧ Stays (only x) w w' := by
  have kn := number_any x s hs o 4 (by decide) w h
  have hl := numO_lt s o 4 (by decide)
  have h256 : (256 : Nat) ^ 4 = 4294967296 := by decide
  have kt := fun w => take_any x s hs (takeO s o 4) (numO s o 4) (by omega) w
  have HT : Hid (txtO s o = takeO s (takeO s o 4) (numO s o 4)) := rfl
  generalize takeT s (takeO s o 4) (numO s o 4) = R at *
  generalize takeO s (takeO s o 4) (numO s o 4) = o2 at *
  generalize numO s o 4 = v at *
  generalize takeO s o 4 = o1 at *
  clear h hl h256
  go_enter Tryd.func62, Tryd.ntmps62
  go_wp2_with fail
  refine kn.mono ?_
  rintro e w1 ⟨rfl, h1, h2⟩
  have kt := kt w1 h1
  have H2 : Hid (Stays (only x) w w1) := h2
  clear h1 h2 kn
  go_wp2_with fail
  refine kt.mono ?_
  rintro e w2 ⟨rfl, h1, h2⟩
  have H1 : Hid (Wo w2 x s o2) := h1
  have H3 : Hid (Stays (only x) w w2) := H2.out.trans h2 (fun _ _ q => q)
  clear h1 h2 kt H2
  go_wp2_with fail
  go_ret
  exact ⟨⟨_, rfl⟩, by rw [HT.out]; exact H1.out, H3.out⟩
theorem str_empty (r : ByteArray) : (r.toList == ([] : List UInt8)) = decide (r.size = 0) := by
  rw [ByteArray.toList_eq, Bool.eq_iff_iff, beq_iff_eq, decide_eq_true_iff]
  constructor
  · intro h
    have : r.data.toList.length = 0 := by rw [h]; rfl
    rw [Array.length_toList] at this
    exact this
  · intro h
    apply List.length_eq_zero_iff.1
    rw [Array.length_toList]
    exact h
set_option maxRecDepth 20000 in
set_option maxHeartbeats 1600000 in
theorem atEnd_any (x : Nat) (s : ByteArray) (o : Option Nat) (w : World) (h : Wo w x s o) :
    Calls Tryd.prog 61 #[.pointer (some ⟨x, 0, none⟩)] w fun e w' => e = .returned (.bool (atE s o)) ∧ w' = w := by
  cases o with
  | none =>
    obtain ⟨r, h⟩ := h
    have c1 := h.c1
    clear h
    go_enter Tryd.func61, Tryd.ntmps61
    go_wp2_with fail
    go_ret
    exact ⟨rfl, rfl⟩
  | some a =>
    obtain ⟨ha, h⟩ := h
    have c0 := h.c0
    have c1 := h.c1
    have hE : Hid (atE s (some a) = ((s.extract a s.size).toList == ([] : List UInt8))) := by
      rw [str_empty, ext_len _ _ _ ha (Nat.le_refl _)]
      show decide (a = s.size) = _
      rw [decide_eq_decide]
      omega
    clear h ha
    generalize s.extract a s.size = R at *
    go_enter Tryd.func61, Tryd.ntmps61
    go_wp2_with fail
    go_ret
    exact ⟨by rw [hE.out]; first | rfl | simp, rfl⟩

end Go.Proofs.YtfmpiidnemhijaaDoor
