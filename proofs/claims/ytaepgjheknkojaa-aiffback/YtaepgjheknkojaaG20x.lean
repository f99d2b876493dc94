/- Own text: how long a chunk is (length), and the boxes of begin. the walk of begin, where it answers an error. -/
import Derived.Test.YtaepgjheknkojaaG19x
import Derived.Test.YtaepgjheknkojaaG11x
import Derived.Deep.RegionHeld3
namespace Go.Proofs.Ytaepgjheknkojaa
open Go.RowKit
set_option linter.unusedSimpArgs false
set_option linter.unusedVariables false

/-- How the lengths of Bodies are told. -/
structure Siz where
  big : Bool
  far : ByteArray
  fl : Int
abbrev sizC (z : Siz) : Array Value := #[.bool z.big, .string z.far, .int .i64 z.fl]
def lenM (z : Siz) (id told : ByteArray) : Int := if id.toList == z.far.toList then (if fromN told z.big != 4294967295 then -1 else z.fl) else fromN told z.big
def lenZ (z : Siz) (s : ByteArray) : Int := lenM z (s.extract 0 4) (s.extract 4 8)
def begB (z : Siz) (s : ByteArray) : Bool := decide (8 ≤ s.size) && (idB (s.extract 0 4) && (decide (0 ≤ lenZ z s) && decide (lenZ z s ≤ (s.size : Int) - 8)))
def begC (z : Siz) (s : ByteArray) : Chk := ⟨s.extract 0 4, s.extract 8 (8 + (lenZ z s).toNat), padC s (lenZ z s).toNat⟩
def begN (z : Siz) (s : ByteArray) : Nat := 8 + (lenZ z s).toNat + (if (lenZ z s).toNat % 2 = 1 ∧ 8 + (lenZ z s).toNat < s.size then 1 else 0)
def begR (z : Siz) (s : ByteArray) : ByteArray := s.extract (begN z s) s.size

theorem infoZ : (Try.prog.info? 119).map (·.size) = some 3 := by kernel_rfl

set_option maxRecDepth 20000 in
set_option maxHeartbeats 3200000 in
theorem length_spec (z : Siz) (id told : ByteArray) (ht : told.size ≤ 8) (w : World) :
    Calls Try.prog 93 #[.agg (sizC z), .string id, .string told] w fun e w' => e = .returned (.int .i64 (lenM z id told)) ∧ Below w.heap.size w w' := by
  have kl := fun w => fromLe_spec told (by omega) w
  have kb := fun w => fromBe_spec told (by omega) w
  have HB : Hid (Below w.heap.size w (w.alloc (.cells (sizC z) 119))) := (Below.refl _ _).alloc (Nat.le_refl _) _
  have HL : Hid (lenM z id told = if id.toList == z.far.toList then (if fromN told z.big != 4294967295 then -1 else z.fl) else fromN told z.big) := rfl
  obtain ⟨big, far, fl⟩ := z
  cases big
  · have HN : Hid (fromN told false = fromBe (bytesOf told).reverse) := rfl
    generalize fromBe (bytesOf told).reverse = n at *
    generalize fromBe (bytesOf told) = m at *
    cases hq : id.toList == far.toList
    · have HE : Hid (lenM ⟨false, far, fl⟩ id told = n) := HL.out.trans (by rw [hq]; exact HN.out)
      go_enter Try.func93, Try.ntmps93
      go_wp2_with fail
      refine (kl _).mono ?_
      rintro e w2 ⟨rfl, rfl⟩
      go_wp2_with fail
      go_ret
      exact ⟨by rw [HE.out]; rfl, HB.out⟩
    · cases hn : n != 4294967295
      · have HE : Hid (lenM ⟨false, far, fl⟩ id told = fl) := HL.out.trans (by rw [hq]; show (if (fromN told false != 4294967295) = true then (-1 : Int) else fl) = fl; rw [HN.out, hn]; rfl)
        go_enter Try.func93, Try.ntmps93
        go_wp2_with fail
        refine (kl _).mono ?_
        rintro e w2 ⟨rfl, rfl⟩
        go_wp2_with fail
        go_ret
        exact ⟨by rw [HE.out]; rfl, HB.out⟩
      · have HE : Hid (lenM ⟨false, far, fl⟩ id told = -1) := HL.out.trans (by rw [hq]; show (if (fromN told false != 4294967295) = true then (-1 : Int) else fl) = -1; rw [HN.out, hn]; rfl)
        go_enter Try.func93, Try.ntmps93
        go_wp2_with fail
        refine (kl _).mono ?_
        rintro e w2 ⟨rfl, rfl⟩
        go_wp2_with fail
        go_ret
        exact ⟨by rw [HE.out]; rfl, HB.out⟩
  · have HN : Hid (fromN told true = fromBe (bytesOf told)) := rfl
    generalize fromBe (bytesOf told).reverse = m at *
    generalize fromBe (bytesOf told) = n at *
    cases hq : id.toList == far.toList
    · have HE : Hid (lenM ⟨true, far, fl⟩ id told = n) := HL.out.trans (by rw [hq]; exact HN.out)
      go_enter Try.func93, Try.ntmps93
      go_wp2_with fail
      refine (kl _).mono ?_
      rintro e w2 ⟨rfl, rfl⟩
      go_wp2_with fail
      refine (kb _).mono ?_
      rintro e w2 ⟨rfl, rfl⟩
      go_wp2_with fail
      go_ret
      exact ⟨by rw [HE.out]; rfl, HB.out⟩
    · cases hn : n != 4294967295
      · have HE : Hid (lenM ⟨true, far, fl⟩ id told = fl) := HL.out.trans (by rw [hq]; show (if (fromN told true != 4294967295) = true then (-1 : Int) else fl) = fl; rw [HN.out, hn]; rfl)
        go_enter Try.func93, Try.ntmps93
        go_wp2_with fail
        refine (kl _).mono ?_
        rintro e w2 ⟨rfl, rfl⟩
        go_wp2_with fail
        refine (kb _).mono ?_
        rintro e w2 ⟨rfl, rfl⟩
        go_wp2_with fail
        go_ret
        exact ⟨by rw [HE.out]; rfl, HB.out⟩
      · have HE : Hid (lenM ⟨true, far, fl⟩ id told = -1) := HL.out.trans (by rw [hq]; show (if (fromN told true != 4294967295) = true then (-1 : Int) else fl) = -1; rw [HN.out, hn]; rfl)
        go_enter Try.func93, Try.ntmps93
        go_wp2_with fail
        refine (kl _).mono ?_
        rintro e w2 ⟨rfl, rfl⟩
        go_wp2_with fail
        refine (kb _).mono ?_
        rintro e w2 ⟨rfl, rfl⟩
        go_wp2_with fail
        go_ret
        exact ⟨by rw [HE.out]; rfl, HB.out⟩

/-- begin's boxes: the sizes' and the answer's. -/
structure Jb (w0 : World) (z : Siz) (w : World) : Prop where
  zb : w.heap[w0.heap.size]? = some (.cells (sizC z) 119 (0, 0))
  res : w.heap[w0.heap.size + 1]? = some (.cells zeroK 66 (0, 0))
  below : Below w0.heap.size w0 w
theorem Jb.new (w : World) (z : Siz) : Jb w z ((w.alloc (.cells (sizC z) 119)).alloc (.cells zeroK 66)) := by
  refine ⟨?_, ?_, ((Below.refl _ _).alloc (Nat.le_refl _) _).alloc (by simp) _⟩
  · exact (((Below.refl _ _).alloc (Nat.le_refl _) _).block _ (by simp)).trans (heap_alloc_new w _)
  · rw [← show (w.alloc (.cells (sizC z) 119)).heap.size = w.heap.size + 1 from by simp]
    exact heap_alloc_new _ _
theorem Jb.next {w0 w w1 : World} {z : Siz} (h : Jb w0 z w) (hB : Below w.heap.size w w1) : Jb w0 z w1 :=
  ⟨by rw [hB.block _ (lt_of_block h.zb)]; exact h.zb, by rw [hB.block _ (lt_of_block h.res)]; exact h.res, h.below.trans (hB.mono h.below.size)⟩
theorem Jb.s {w0 w : World} {z : Siz} (h : Jb w0 z w) (j : Nat) (v : Value) (hv : (sizC z)[j]? = some v) : w.cell? ⟨w0.heap.size, j, none⟩ = some v := by rw [cell_of_row _ _ _ _ _ _ h.zb]; exact hv
theorem Jb.c {w0 w : World} {z : Siz} (h : Jb w0 z w) (j : Nat) (v : Value) (hv : zeroK[j]? = some v) : w.cell? ⟨w0.heap.size + 1, j, none⟩ = some v := by rw [cell_of_row _ _ _ _ _ _ h.res]; exact hv
theorem Jb.z {w0 w : World} {z : Siz} (h : Jb w0 z w) (j : Nat) : w.frozen? ⟨w0.heap.size + 1, j, none⟩ = false := by
  have := h.res
  simp [World.frozen?, this]
/-- What is stored into the answer's box is answered. -/
theorem Jb.out {w0 w : World} {z : Siz} (h : Jb w0 z w) (a b c : Value) (wf : World) (hw : ((w.setCell ⟨w0.heap.size + 1, 0, none⟩ a).setCell ⟨w0.heap.size + 1, 1, none⟩ b).setCell ⟨w0.heap.size + 1, 2, none⟩ c = wf) :
    wf.heap[w0.heap.size + 1]? = some (.cells #[a, b, c] 66 (0, 0)) ∧ Below w0.heap.size w0 wf := by
  refine ⟨?_, ?_⟩
  · rw [← hw, block_set _ _ _ _ _ _ (block_set _ _ _ _ _ _ (block_set _ _ _ _ _ _ h.res))]
    rfl
  · rw [← hw]
    exact ((h.below.setCell (Nat.le_succ _) _).setCell (Nat.le_succ _) _).setCell (Nat.le_succ _) _
theorem begin_ret {wf w0 : World} {a b c : Value} (h : wf.heap[w0.heap.size + 1]? = some (.cells #[a, b, c] 66 (0, 0))) (a' : Act) (r n : Value) (h6 : a'.tmps.getD 6 undef = .pointer (some ⟨w0.heap.size + 1, 0, none⟩)) (h7 : a'.tmps.getD 7 undef = r) (h8 : a'.tmps.getD 8 undef = n) :
    (results Try.f71 a'.tmps).run Try.prog wf = .ok (.tuple #[.agg #[a, b, c], r, n]) wf := by
  rw [res_three rfl]
  have hld := run_loadVar_row (P := Try.prog) wf (w0.heap.size + 1) 66 66 #[a, b, c] (0, 0) _ h Try.underlying66 rfl infoK
  simp [h6, h7, h8, asAddr, Result.andThen, hld]

end Go.Proofs.Ytaepgjheknkojaa

namespace Go.Proofs.Ytaepgjheknkojaa
open Go.RowKit
set_option linter.unusedSimpArgs false
set_option linter.unusedVariables false

set_option maxRecDepth 20000 in
set_option maxHeartbeats 3200000 in
theorem begin_short (z : Siz) (s : ByteArray) (k : Int) (w : World) (h8 : s.size < 8) :
    Calls Try.prog 71 #[.agg (sizC z), .string s, .int .i64 k] w fun e w' => e = .returned (.tuple #[.agg zeroK, .string ⟨#[]⟩, .int .i64 2]) ∧ Below w.heap.size w w' := by
  have HL0 : Hid (Jb w z ((w.alloc (.cells (sizC z) 119)).alloc (.cells zeroK 66))) := Jb.new w z
  go_enter Try.func71, Try.ntmps71
  go_wp2_with fail
  exact bodyPost_ret (v := .tuple #[.agg zeroK, .string ⟨#[]⟩, .int .i64 2]) (begin_ret HL0.out.res _ _ _ rfl rfl rfl) rfl ⟨rfl, HL0.out.below⟩

set_option maxRecDepth 20000 in
set_option maxHeartbeats 3200000 in
theorem begin_noid (z : Siz) (s : ByteArray) (k : Int) (w : World) (h8 : 8 ≤ s.size) (hs : s.size ≤ 140737488351232) (hid : idB (s.extract 0 4) = false) :
    Calls Try.prog 71 #[.agg (sizC z), .string s, .int .i64 k] w fun e w' => e = .returned (.tuple #[.agg zeroK, .string ⟨#[]⟩, .int .i64 2]) ∧ Below w.heap.size w w' := by
  have HL0 : Hid (Jb w z ((w.alloc (.cells (sizC z) 119)).alloc (.cells zeroK 66))) := Jb.new w z
  have ki := isId_spec (s.extract 0 4) (by rw [ext_size _ _ _ (by omega) (by omega)]; decide)
  rw [hid] at ki
  go_enter Try.func71, Try.ntmps71
  go_wp2_with fail
  refine (ki _).mono ?_
  rintro e w2 ⟨rfl, rfl⟩
  go_wp2_with fail
  exact bodyPost_ret (v := .tuple #[.agg zeroK, .string ⟨#[]⟩, .int .i64 2]) (begin_ret HL0.out.res _ _ _ rfl rfl rfl) rfl ⟨rfl, HL0.out.below⟩

set_option maxRecDepth 20000 in
set_option maxHeartbeats 3200000 in
theorem begin_far (z : Siz) (s : ByteArray) (k : Int) (w : World) (h8 : 8 ≤ s.size) (hs : s.size ≤ 140737488351232) (hid : idB (s.extract 0 4) = true) (hl : lenZ z s < 0 ∨ (s.size : Int) - 8 < lenZ z s) :
    Calls Try.prog 71 #[.agg (sizC z), .string s, .int .i64 k] w fun e w' => e = .returned (.tuple #[.agg zeroK, .string ⟨#[]⟩, .int .i64 2]) ∧ Below w.heap.size w w' := by
  have HL0 : Hid (Jb w z ((w.alloc (.cells (sizC z) 119)).alloc (.cells zeroK 66))) := Jb.new w z
  have ki := isId_spec (s.extract 0 4) (by rw [ext_size _ _ _ (by omega) (by omega)]; decide)
  rw [hid] at ki
  have KL : Hid (∀ wx, Hid (Jb w z wx) → Calls Try.prog 93 #[.agg (sizC z), .string (s.extract 0 4), .string (s.extract 4 8)] wx fun e w' => e = .returned (.int .i64 (lenZ z s)) ∧ Hid (Jb w z w')) := fun wx hx =>
    (length_spec z (s.extract 0 4) (s.extract 4 8) (by rw [ext_size _ _ _ (by omega) (by omega)]; decide) wx).mono fun e w' h => ⟨h.1, hx.out.next h.2⟩
  have HS : Hid (∀ wx, Hid (Jb w z wx) → wx.cell? ⟨w.heap.size, 0, none⟩ = some (.bool z.big) ∧ wx.cell? ⟨w.heap.size, 1, none⟩ = some (.string z.far) ∧ wx.cell? ⟨w.heap.size, 2, none⟩ = some (.int .i64 z.fl)) := fun wx hx => ⟨hx.out.s 0 _ rfl, hx.out.s 1 _ rfl, hx.out.s 2 _ rfl⟩
  have hes : ((s.extract 8 s.size).size : Int) = (s.size : Int) - 8 := by rw [ext_size _ _ _ (by omega) (Nat.le_refl _)]; omega
  generalize lenZ z s = L at *
  go_enter Try.func71, Try.ntmps71
  go_wp2_with fail
  refine (ki _).mono ?_
  rintro e w2 ⟨rfl, rfl⟩
  clear ki
  go_wp2_with fail
  go_quiet (fail)
  go_wp2_with fail
  generalize hwa : World.drewN _ _ = wa
  have HA : Hid (Jb w z wa) := by
    rw [← hwa]
    exact HL0.out.next ⟨rfl, rfl, rfl, Nat.le_refl _, fun _ _ => rfl⟩
  have HD : Hid (Jb w z wa.drew) := HA.out.next ⟨rfl, rfl, rfl, Nat.le_refl _, fun _ _ => rfl⟩
  clear hwa HL0
  go_region_held3 (fun wx => wx.cell? ⟨w.heap.size, 0, none⟩ = some (.bool z.big) ∧ wx.cell? ⟨w.heap.size, 1, none⟩ = some (.string z.far) ∧ wx.cell? ⟨w.heap.size, 2, none⟩ = some (.int .i64 z.fl)) (exact HS.out _ (by assumption))
    ((go_at_call 93; refine (KL.out _ (by assumption)).mono ?_; rintro e w4 ⟨rfl, h4⟩))
  clear KL HS HA HD
  have r0 := h4.out.c 0 _ rfl
  have r1 := h4.out.c 1 _ rfl
  have r2 := h4.out.c 2 _ rfl
  have z0 := h4.out.z 0
  have z1 := h4.out.z 1
  have z2 := h4.out.z 2
  rcases hl with hl | hl
  · go_wp2_with fail
    obtain ⟨g1, g2⟩ := h4.out.out (.string ⟨#[]⟩) (.string ⟨#[]⟩) (.int .i64 0) _ rfl
    exact bodyPost_ret (v := .tuple #[.agg zeroK, .string ⟨#[]⟩, .int .i64 2]) (begin_ret g1 _ _ _ rfl rfl rfl) rfl ⟨rfl, g2⟩
  · have hn : ¬ L < 0 := by omega
    go_wp2_with fail
    obtain ⟨g1, g2⟩ := h4.out.out (.string ⟨#[]⟩) (.string ⟨#[]⟩) (.int .i64 0) _ rfl
    exact bodyPost_ret (v := .tuple #[.agg zeroK, .string ⟨#[]⟩, .int .i64 2]) (begin_ret g1 _ _ _ rfl rfl rfl) rfl ⟨rfl, g2⟩

set_option maxRecDepth 20000 in
set_option maxHeartbeats 3200000 in
theorem begin_many (z : Siz) (s : ByteArray) (k : Int) (w : World) (h8 : 8 ≤ s.size) (hs : s.size ≤ 140737488351232) (hid : idB (s.extract 0 4) = true) (hl0 : 0 ≤ lenZ z s) (hl1 : lenZ z s ≤ (s.size : Int) - 8) (hk : 1024 ≤ k) :
    Calls Try.prog 71 #[.agg (sizC z), .string s, .int .i64 k] w fun e w' => e = .returned (.tuple #[.agg zeroK, .string ⟨#[]⟩, .int .i64 5]) ∧ Below w.heap.size w w' := by
  have HL0 : Hid (Jb w z ((w.alloc (.cells (sizC z) 119)).alloc (.cells zeroK 66))) := Jb.new w z
  have ki := isId_spec (s.extract 0 4) (by rw [ext_size _ _ _ (by omega) (by omega)]; decide)
  rw [hid] at ki
  have KL : Hid (∀ wx, Hid (Jb w z wx) → Calls Try.prog 93 #[.agg (sizC z), .string (s.extract 0 4), .string (s.extract 4 8)] wx fun e w' => e = .returned (.int .i64 (lenZ z s)) ∧ Hid (Jb w z w')) := fun wx hx =>
    (length_spec z (s.extract 0 4) (s.extract 4 8) (by rw [ext_size _ _ _ (by omega) (by omega)]; decide) wx).mono fun e w' h => ⟨h.1, hx.out.next h.2⟩
  have HS : Hid (∀ wx, Hid (Jb w z wx) → wx.cell? ⟨w.heap.size, 0, none⟩ = some (.bool z.big) ∧ wx.cell? ⟨w.heap.size, 1, none⟩ = some (.string z.far) ∧ wx.cell? ⟨w.heap.size, 2, none⟩ = some (.int .i64 z.fl)) := fun wx hx => ⟨hx.out.s 0 _ rfl, hx.out.s 1 _ rfl, hx.out.s 2 _ rfl⟩
  have hes : ((s.extract 8 s.size).size : Int) = (s.size : Int) - 8 := by rw [ext_size _ _ _ (by omega) (Nat.le_refl _)]; omega
  generalize lenZ z s = L at *
  go_enter Try.func71, Try.ntmps71
  go_wp2_with fail
  refine (ki _).mono ?_
  rintro e w2 ⟨rfl, rfl⟩
  clear ki
  go_wp2_with fail
  go_quiet (fail)
  go_wp2_with fail
  generalize hwa : World.drewN _ _ = wa
  have HA : Hid (Jb w z wa) := by
    rw [← hwa]
    exact HL0.out.next ⟨rfl, rfl, rfl, Nat.le_refl _, fun _ _ => rfl⟩
  have HD : Hid (Jb w z wa.drew) := HA.out.next ⟨rfl, rfl, rfl, Nat.le_refl _, fun _ _ => rfl⟩
  clear hwa HL0
  go_region_held3 (fun wx => wx.cell? ⟨w.heap.size, 0, none⟩ = some (.bool z.big) ∧ wx.cell? ⟨w.heap.size, 1, none⟩ = some (.string z.far) ∧ wx.cell? ⟨w.heap.size, 2, none⟩ = some (.int .i64 z.fl)) (exact HS.out _ (by assumption))
    ((go_at_call 93; refine (KL.out _ (by assumption)).mono ?_; rintro e w4 ⟨rfl, h4⟩))
  clear KL HS HA HD
  have r0 := h4.out.c 0 _ rfl
  have r1 := h4.out.c 1 _ rfl
  have r2 := h4.out.c 2 _ rfl
  have z0 := h4.out.z 0
  have z1 := h4.out.z 1
  have z2 := h4.out.z 2
  go_wp2_with fail
  obtain ⟨g1, g2⟩ := h4.out.out (.string ⟨#[]⟩) (.string ⟨#[]⟩) (.int .i64 0) _ rfl
  exact bodyPost_ret (v := .tuple #[.agg zeroK, .string ⟨#[]⟩, .int .i64 5]) (begin_ret g1 _ _ _ rfl rfl rfl) rfl ⟨rfl, g2⟩

end Go.Proofs.Ytaepgjheknkojaa
