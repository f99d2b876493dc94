/- Own text: the walks of own and bare. -/
import Derived.Test.YtaepgjheknkojaaGreatQ6begin3
import Derived.Test.YtaepgjheknkojaaGreatQ6clone
import Derived.Test.YtaepgjheknkojaaGreatG16x
import Derived.Deep.RegionWith
namespace Go.Proofs.YtaepgjheknkojaaGreat
open Go.RowKit
set_option linter.unusedSimpArgs false
set_option linter.unusedVariables false

/-- Two boxes of chunks: the argument's, the answer's. -/
structure Jo (w0 : World) (c : Chk) (d : Array Value) (w : World) : Prop where
  cb : w.heap[w0.heap.size]? = some (.cells (chkC c) 55 (0, 0))
  res : w.heap[w0.heap.size + 1]? = some (.cells d 55 (0, 0))
  below : Below w0.heap.size w0 w
theorem Jo.new (w : World) (c : Chk) : Jo w c zeroK ((w.alloc (.cells (chkC c) 55)).alloc (.cells zeroK 55)) := by
  refine ⟨?_, ?_, ((Below.refl _ _).alloc (Nat.le_refl _) _).alloc (by simp) _⟩
  · exact (((Below.refl _ _).alloc (Nat.le_refl _) _).block _ (by simp)).trans (heap_alloc_new w _)
  · rw [← show (w.alloc (.cells (chkC c) 55)).heap.size = w.heap.size + 1 from by simp]
    exact heap_alloc_new _ _
theorem Jo.next {w0 w w1 : World} {c : Chk} {d : Array Value} (h : Jo w0 c d w) (hB : Below w.heap.size w w1) : Jo w0 c d w1 :=
  ⟨by rw [hB.block _ (lt_of_block h.cb)]; exact h.cb, by rw [hB.block _ (lt_of_block h.res)]; exact h.res, h.below.trans (hB.mono h.below.size)⟩
theorem Jo.set {w0 w : World} {c : Chk} {d : Array Value} (h : Jo w0 c d w) (j : Nat) (v : Value) : Jo w0 c (d.setIfInBounds j v) (w.setCell ⟨w0.heap.size + 1, j, none⟩ v) :=
  ⟨by rw [Below.heap_setCell _ _ _ _ (by show w0.heap.size ≠ w0.heap.size + 1; omega)]; exact h.cb, block_set _ _ _ _ _ _ h.res, h.below.setCell (Nat.le_succ _) _⟩
theorem Jo.s {w0 w : World} {c : Chk} {d : Array Value} (h : Jo w0 c d w) (j : Nat) (v : Value) (hv : (chkC c)[j]? = some v) : w.cell? ⟨w0.heap.size, j, none⟩ = some v := by rw [cell_of_row _ _ _ _ _ _ h.cb]; exact hv
theorem Jo.c {w0 w : World} {c : Chk} {d : Array Value} (h : Jo w0 c d w) (j : Nat) (v : Value) (hv : d[j]? = some v) : w.cell? ⟨w0.heap.size + 1, j, none⟩ = some v := by rw [cell_of_row _ _ _ _ _ _ h.res]; exact hv
theorem Jo.z {w0 w : World} {c : Chk} {d : Array Value} (h : Jo w0 c d w) (j : Nat) : w.frozen? ⟨w0.heap.size + 1, j, none⟩ = false := by
  have := h.res
  simp [World.frozen?, this]

theorem one_ret {wf w0 : World} {d : Array Value} (h : wf.heap[w0.heap.size + 1]? = some (.cells d 55 (0, 0))) {fn : Func} (a' : Act) (hf : fn.results = #[.cell 2 55]) (h6 : a'.tmps.getD 2 undef = .pointer (some ⟨w0.heap.size + 1, 0, none⟩)) (hd : d.size = 3 := by rfl) :
    (results fn a'.tmps).run Tryz.prog wf = .ok (.agg d) wf := by
  rw [res_one hf]
  have hld := run_loadVar_row (P := Tryz.prog) wf (w0.heap.size + 1) 55 55 d (0, 0) _ h Tryz.underlying55 rfl (by rw [hd]; exact infoK)
  simp [h6, asAddr, Result.andThen, hld]
def idData : ByteArray := ⟨#[100, 97, 116, 97]⟩
theorem idData_list : idData.toList = [100, 97, 116, 97] := by
  rw [ByteArray.toList_eq]
  rfl
set_option maxRecDepth 20000 in
set_option maxHeartbeats 3200000 in
theorem own_spec (c : Chk) (hi : c.id.size ≤ 281474976710656) (hb : c.body.size ≤ 281474976710656) (w : World) :
    Calls Tryz.prog 101 #[chkV c] w fun e w' => e = .returned (chkV c) ∧ Below w.heap.size w w' := by
  have HJ0 : Hid (Jo w c zeroK ((w.alloc (.cells (chkC c) 55)).alloc (.cells zeroK 55))) := Jo.new w c
  have KC : Hid (∀ x wx, (x = c.id ∨ x = c.body) → Hid (Jo w c zeroK wx) → Calls Tryz.prog 75 #[.string x] wx fun e w' => e = .returned (.string x) ∧ Hid (Jo w c zeroK w')) := fun x wx hx hj =>
    (clone_spec x wx (by rcases hx with rfl | rfl <;> assumption)).mono fun e w' h => ⟨h.1, hj.out.next h.2⟩
  have HS : Hid (∀ wx, Hid (Jo w c zeroK wx) → wx.cell? ⟨w.heap.size, 0, none⟩ = some (.string c.id) ∧ wx.cell? ⟨w.heap.size, 1, none⟩ = some (.string c.body) ∧ wx.cell? ⟨w.heap.size, 2, none⟩ = some (.int .i64 c.pad)) := fun wx hx => ⟨hx.out.s 0 _ rfl, hx.out.s 1 _ rfl, hx.out.s 2 _ rfl⟩
  clear hi hb
  go_enter Tryz.func101, Tryz.ntmps101
  go_wp2_with fail
  generalize hwa : World.alloc (World.alloc w _) _ = wa
  have HA : Hid (Jo w c zeroK wa) := by
    rw [← hwa]
    exact HJ0.out
  have HD : Hid (Jo w c zeroK wa.drew) := HA.out.next ⟨rfl, rfl, rfl, Nat.le_refl _, fun _ _ => rfl⟩
  clear hwa HJ0
  have a0 := HD.out.s 0 _ rfl
  have a1 := HD.out.s 1 _ rfl
  have a2 := HD.out.s 2 _ rfl
  have ar0 := HD.out.c 0 _ rfl
  have ar1 := HD.out.c 1 _ rfl
  have ar2 := HD.out.c 2 _ rfl
  have az0 := HD.out.z 0
  have az1 := HD.out.z 1
  have az2 := HD.out.z 2
  go_region_with (go_at_call 75; refine (KC.out _ _ (by first | exact Or.inl rfl | exact Or.inr rfl) (by assumption)).mono ?_; rintro e w4 ⟨rfl, h4⟩; have b0 := h4.out.s 0 _ rfl; have b1 := h4.out.s 1 _ rfl; have b2 := h4.out.s 2 _ rfl; have br0 := h4.out.c 0 _ rfl; have br1 := h4.out.c 1 _ rfl; have br2 := h4.out.c 2 _ rfl; have bz0 := h4.out.z 0; have bz1 := h4.out.z 1; have bz2 := h4.out.z 2)
  all_goals go_wp2_with fail
  all_goals exact bodyPost_ret (v := chkV c) (one_ret (((h4.out.set 0 _).set 1 _).set 2 _).res _ rfl rfl) rfl ⟨rfl, (((h4.out.set 0 _).set 1 _).set 2 _).below⟩

end Go.Proofs.YtaepgjheknkojaaGreat
