/- Own text: the walk of awake. -/
import Derived.Test.YtolmijpecomkcaaG4
import Derived.Test.YtolmijpecomkcaaQ5pack3
namespace Go.Proofs.Ytolmijpecomkcaa
open Go.RowKit
set_option linter.unusedSimpArgs false
set_option linter.unusedVariables false

def two (wd : Int) : Pcm := ⟨44100, 1, wd, [[1, -1]]⟩
set_option maxRecDepth 20000 in
set_option maxHeartbeats 1600000 in
theorem two_spec (wd : Int) (w : World) : Calls Try.prog 31 #[.int .i64 wd] w fun e w' => ∃ ao cap, e = .returned (pcmV (two wd) ao cap) ∧ RowsAt w' ao (two wd).pl ∧ Below w.heap.size w w' := by
  go_enter Try.func31, Try.ntmps31
  go_wp2_with fail
  generalize hwf : World.alloc (World.alloc (World.alloc w _) _) _ = wf
  have h : ∀ (w : World) (o : Obj), Below w.heap.size w (w.alloc o) := fun w o => (Below.refl _ _).alloc (Nat.le_refl _) _
  have hb0 : wf.heap[w.heap.size]? = some (.cells #[.int .i64 44100, .int .i64 1, .int .i64 wd, .slice (some ⟨w.heap.size + 1 + 1, 0, none⟩) 1 1] 24 (0, 0)) := by
    rw [← hwf, (h _ _).block _ (by simp <;> omega), (h _ _).block _ (by simp)]
    exact heap_alloc_new _ _
  have hb1 : wf.heap[w.heap.size + 1]? = some (.cells #[.int .i64 1, .int .i64 (-1)] 3 (0, 0)) := by
    rw [← hwf, (h _ _).block _ (by simp)]
    have e : (w.alloc (.cells #[.int .i64 44100, .int .i64 1, .int .i64 wd, .slice (some ⟨w.heap.size + 1 + 1, 0, none⟩) 1 1] 24)).heap.size = w.heap.size + 1 := by simp
    have hh := heap_alloc_new (w.alloc (.cells #[.int .i64 44100, .int .i64 1, .int .i64 wd, .slice (some ⟨w.heap.size + 1 + 1, 0, none⟩) 1 1] 24)) (.cells #[.int .i64 1, .int .i64 (-1)] 3)
    rw [e] at hh
    exact hh
  have hb2 : wf.heap[w.heap.size + 1 + 1]? = some (.cells #[.slice (some ⟨w.heap.size + 1, 0, none⟩) 2 2] 45 (0, 0)) := by
    rw [← hwf]
    have e : ((w.alloc (.cells #[.int .i64 44100, .int .i64 1, .int .i64 wd, .slice (some ⟨w.heap.size + 1 + 1, 0, none⟩) 1 1] 24)).alloc (.cells #[.int .i64 1, .int .i64 (-1)] 3)).heap.size = w.heap.size + 1 + 1 := by simp
    have hh := heap_alloc_new ((w.alloc (.cells #[.int .i64 44100, .int .i64 1, .int .i64 wd, .slice (some ⟨w.heap.size + 1 + 1, 0, none⟩) 1 1] 24)).alloc (.cells #[.int .i64 1, .int .i64 (-1)] 3)) (.cells #[.slice (some ⟨w.heap.size + 1, 0, none⟩) 2 2] 45)
    rw [e] at hh
    exact hh
  have hbel : Below w.heap.size w wf := by
    rw [← hwf]
    exact ((h w _).alloc (by simp) _).alloc (by simp <;> omega) _
  have hi : IntsAt wf (some ⟨w.heap.size + 1, 0, none⟩) [1, -1] := by
    refine ⟨by decide, by decide, fun _ => ⟨w.heap.size + 1, 0, rfl, fun j hj => ?_⟩⟩
    have hj2 : j = 0 ∨ j = 1 := by simp at hj; omega
    rcases hj2 with rfl | rfl
    · rw [cell_of_row _ _ _ _ _ _ hb1]; rfl
    · rw [cell_of_row _ _ _ _ _ _ hb1]; rfl
  have hr : RowsAt wf (some ⟨w.heap.size + 1 + 1, 0, none⟩) (two wd).pl := by
    refine ⟨by simp [two], fun _ => ⟨w.heap.size + 1 + 1, 0, rfl, fun i hi' => ?_⟩⟩
    have e : i = 0 := by simp [two] at hi'; omega
    subst e
    exact ⟨some ⟨w.heap.size + 1, 0, none⟩, 2, by rw [cell_of_row _ _ _ _ _ _ hb2]; rfl, Nat.le_refl 2, fun e => (by cases e), hi⟩
  refine bodyPost_ret (v := pcmV (two wd) (some ⟨w.heap.size + 1 + 1, 0, none⟩) 1) ?_ rfl ⟨_, _, rfl, hr, hbel⟩
  rw [res_one rfl]
  have hld := run_loadVar_row (P := Try.prog) wf w.heap.size 24 24 _ (0, 0) _ hb0 Try.underlying24 rfl infPcm
  simp [asAddr, Result.andThen, hld, two]

theorem two16 : checkN (two 16) = 0 := by decide +kernel
theorem two8 : checkN (two 8) = 0 := by decide +kernel
theorem pak16 : pakN (two 16) false false = ⟨#[1, 0, 255, 255]⟩ := by
  unfold pakN
  rw [if_pos two16]
  decide +kernel
theorem pak8 : pakN (two 8) false true = ⟨#[129, 127]⟩ := by
  unfold pakN
  rw [if_pos two8]
  decide +kernel
theorem fit32 : fitsN 3 (two 32) = 4 := by decide +kernel
theorem un12 : uE ⟨#[0, 16]⟩ 8000 1 12 false false = 2 := by
  have hs : (⟨#[0, 16]⟩ : ByteArray).size = 2 := rfl
  have hb : sampB (numM ⟨#[0, 16]⟩ 12 false false 0) 12 = false := by decide +kernel
  exact (uE_two ⟨#[0, 16]⟩ 8000 1 12 false false (by decide +kernel) 1 (by decide +kernel) (by decide) (by decide +kernel) (by decide) 0 (by decide) hb).1
theorem len2 : lenP (two 16) = 2 := rfl

set_option maxRecDepth 20000 in
set_option maxHeartbeats 3200000 in
theorem awake_spec (w : World) : Calls Try.prog 14 #[] w fun e w' => e = .returned (.bool true) ∧ Below w.heap.size w w' := by
  have KT : Hid (∀ wd wx, Below w.heap.size w wx → Calls Try.prog 31 #[.int .i64 wd] wx fun e w' => ∃ ao cap, e = .returned (pcmV (two wd) ao cap) ∧ Hid (RowsAt w' ao (two wd).pl) ∧ Hid (Below w.heap.size w w')) := fun wd wx hx => (two_spec wd wx).mono fun e w' h => by
    obtain ⟨ao, cap, h1, h2, h3⟩ := h
    exact ⟨ao, cap, h1, h2, hx.trans (h3.mono hx.size)⟩
  have KP : Hid (∀ wd big uns ao cap wx, Hid (RowsAt wx ao (two wd).pl) → Hid (Below w.heap.size w wx) → Calls Try.prog 18 #[pcmV (two wd) ao cap, .agg #[.bool big, .bool uns]] wx fun e w' => e = .returned (.tuple #[.string (pakN (two wd) big uns), .int .i64 (checkN (two wd))]) ∧ Hid (Below w.heap.size w w')) := fun wd big uns ao cap wx hr hx => (pack_spec (two wd) ao cap big uns wx hr.out).mono fun e w' h => ⟨h.1, hx.out.trans (h.2.mono hx.out.size)⟩
  have KU : Hid (∀ wx, Hid (Below w.heap.size w wx) → Calls Try.prog 15 #[.string ⟨#[0, 16]⟩, .int .i64 8000, .int .i64 1, .int .i64 12, .agg #[.bool false, .bool false]] wx fun e w' => ∃ (q : Pcm) (ao : Option Addr) (cap : Nat), e = .returned (.tuple #[pcmV q ao cap, .int .i64 2]) ∧ Hid (Below w.heap.size w w')) := fun wx hx => (unpack_spec ⟨#[0, 16]⟩ 8000 1 12 false false wx (by decide)).mono fun e w' h => by
    obtain ⟨ao, cap, h1, _, _, h4⟩ := h
    rw [un12] at h1
    exact ⟨_, ao, cap, h1, hx.out.trans (h4.mono hx.out.size)⟩
  have KF : Hid (∀ ao cap wx, Hid (RowsAt wx ao (two 32).pl) → Hid (Below w.heap.size w wx) → Calls Try.prog 10 #[.int .i64 3, pcmV (two 32) ao cap] wx fun e w' => e = .returned (.int .i64 4) ∧ Hid (Below w.heap.size w w')) := fun ao cap wx hr hx => (fits5_spec 3 (two 32) ao cap wx hr.out).mono fun e w' h => ⟨by rw [h.1, fit32], hx.out.trans (h.2.mono hx.out.size)⟩
  have KC : Hid (∀ ao cap wx, Hid (RowsAt wx ao (two 16).pl) → Hid (Below w.heap.size w wx) → Calls Try.prog 8 #[pcmV (two 16) ao cap] wx fun e w' => e = .returned (.int .i64 0) ∧ Hid (Below w.heap.size w w')) := fun ao cap wx hr hx => (check_spec (two 16) ao cap wx hr.out).mono fun e w' h => ⟨by rw [h.1, two16], hx.out.trans (h.2.mono hx.out.size)⟩
  have KL : Hid (∀ ao cap wx, Hid (RowsAt wx ao (two 16).pl) → Hid (Below w.heap.size w wx) → Calls Try.prog 12 #[pcmV (two 16) ao cap] wx fun e w' => e = .returned (.int .i64 2) ∧ Hid (Below w.heap.size w w')) := fun ao cap wx hr hx => (len_spec (two 16) ao cap wx hr.out).mono fun e w' h => ⟨by rw [h.1, len2]; rfl, hx.out.trans (h.2.mono hx.out.size)⟩
  have kt0 := KT.out 16 w (Below.refl _ _)
  have kp16 := KP.out 16 false false
  rw [pak16, two16] at kp16
  have KP16 : Hid (∀ ao cap wx, Hid (RowsAt wx ao (two 16).pl) → Hid (Below w.heap.size w wx) → Calls Try.prog 18 #[pcmV (two 16) ao cap, .agg #[.bool false, .bool false]] wx fun e w' => e = .returned (.tuple #[.string ⟨#[1, 0, 255, 255]⟩, .int .i64 0]) ∧ Hid (Below w.heap.size w w')) := kp16
  have kp8 := KP.out 8 false true
  rw [pak8, two8] at kp8
  have KP8 : Hid (∀ ao cap wx, Hid (RowsAt wx ao (two 8).pl) → Hid (Below w.heap.size w wx) → Calls Try.prog 18 #[pcmV (two 8) ao cap, .agg #[.bool false, .bool true]] wx fun e w' => e = .returned (.tuple #[.string ⟨#[129, 127]⟩, .int .i64 0]) ∧ Hid (Below w.heap.size w w')) := kp8
  clear kp16 kp8 KP
  go_enter Try.func14, Try.ntmps14
  go_wp2_with fail
  refine kt0.mono ?_
  rintro e w1 ⟨a1, c1, rfl, r1, b1⟩
  clear kt0
  have k1 := KP16.out a1 c1 w1 r1 b1
  go_wp2_with fail
  refine k1.mono ?_
  rintro e w2 ⟨rfl, b2⟩
  clear k1 r1 b1
  have k2 := KT.out 8 w2 b2.out
  go_wp2_with fail
  refine k2.mono ?_
  rintro e w3 ⟨a3, c3, rfl, r3, b3⟩
  clear k2 b2
  have k3 := KP8.out a3 c3 w3 r3 b3
  go_wp2_with fail
  refine k3.mono ?_
  rintro e w4 ⟨rfl, b4⟩
  clear k3 r3 b3
  have k4 := KU.out w4 b4
  go_wp2_with fail
  refine k4.mono ?_
  rintro e w5 ⟨q, a5, c5, rfl, b5⟩
  clear k4 b4
  have b6 : Hid (Below w.heap.size w (w5.alloc (.cells (pcmC q a5 c5) 24))) := b5.out.alloc b5.out.size _
  have k6 := KT.out 32 _ b6.out
  go_wp2_with fail
  refine k6.mono ?_
  rintro e w7 ⟨a7, c7, rfl, r7, b7⟩
  clear k6 b6
  have k7 := KF.out a7 c7 w7 r7 b7
  go_wp2_with fail
  refine k7.mono ?_
  rintro e w8 ⟨rfl, b8⟩
  clear k7 r7 b7
  have k8 := KT.out 16 w8 b8.out
  go_wp2_with fail
  refine k8.mono ?_
  rintro e w9 ⟨a9, c9, rfl, r9, b9⟩
  clear k8 b8
  have k9 := KC.out a9 c9 w9 r9 b9
  go_wp2_with fail
  refine k9.mono ?_
  rintro e w10 ⟨rfl, b10⟩
  clear k9 r9 b9
  have k10 := KT.out 16 w10 b10.out
  go_wp2_with fail
  refine k10.mono ?_
  rintro e w11 ⟨a11, c11, rfl, r11, b11⟩
  clear k10 b10
  have k11 := KL.out a11 c11 w11 r11 b11
  go_wp2_with fail
  refine k11.mono ?_
  rintro e w12 ⟨rfl, b12⟩
  clear k11 r11 b11
  go_wp2_with fail
  go_ret
  exact ⟨rfl, b12.out⟩

end Go.Proofs.Ytolmijpecomkcaa
