/-
  Own text: for every PCM and every two numbers: the PCM that may be, cut there by the program and joined by it, is what it was. No condition.
-/
import Derived.Test.YtolmijpecomkcaaQ5link
import Derived.Test.YtolmijpecomkcaaQ5args
import Derived.Test.YtolmijpecomkcaaQ5same
import Derived.Test.YtolmijpecomkcaaQ5join2
import Derived.WalkKit
import Derived.ProofKit
import Derived.OpenShut
import Derived.ShutString
import Derived.ChangeOld
import Derived.Below
import Derived.SizedLaws
namespace Go.Proofs.Ytolmijpecomkcaa.pcmCuts
open Go.ChangeShapes Go.WideShapes Go.ChangeAt Go.RowKit
open Go.ChangeMaps (open_string shut_string)
set_option linter.unusedSimpArgs false
set_option linter.unusedVariables false

theorem own : ownKnob Try.prog.godebug = none := by kernel_rfl
theorem laidOut : laidOutB Try.prog = true := by kernel_rfl

/-- The box of p, and boxes of other PCMs. -/
structure B3 (w0 : World) (p : Pcm) (po : Option Addr) (pc : Nat) (qs : List (Nat × Pcm × Option Addr × Nat)) (w : World) : Prop where
  bx : Bx w0 p po pc w
  bs : ∀ x ∈ qs, w.heap[x.1]? = some (.cells (pcmC x.2.1 x.2.2.1 x.2.2.2) 24 (0, 0)) ∧ RowsAt w x.2.2.1 x.2.1.pl
section
variable {w0 w w' : World} {p q : Pcm} {po ao : Option Addr} {pc cap Q : Nat} {qs : List (Nat × Pcm × Option Addr × Nat)}
theorem B3.next (h : B3 w0 p po pc qs w) (hB : Below w.heap.size w w') : B3 w0 p po pc qs w' := ⟨h.bx.next hB, fun x hx => ⟨by rw [hB.block _ (lt_of_block (h.bs x hx).1)]; exact (h.bs x hx).1, (h.bs x hx).2.below hB⟩⟩
theorem B3.new (h : B3 w0 p po pc qs w) (hr : RowsAt w ao q.pl) : B3 w0 p po pc (qs ++ [(w.heap.size, q, ao, cap)]) (w.alloc (.cells (pcmC q ao cap) 24)) := by
  have hB : Below w.heap.size w (w.alloc (.cells (pcmC q ao cap) 24)) := (Below.refl _ _).alloc (Nat.le_refl _) _
  refine ⟨h.bx.next hB, fun x hx => ?_⟩
  rcases List.mem_append.1 hx with hx | hx
  · exact (h.next hB).bs x hx
  · obtain rfl := List.mem_singleton.1 hx
    exact ⟨heap_alloc_new _ _, hr.below hB⟩
theorem B3.cells (h : B3 w0 p po pc qs w) (hx : (Q, q, ao, cap) ∈ qs) : w.cell? ⟨Q, 0, none⟩ = some (.int .i64 q.rate) ∧ w.cell? ⟨Q, 1, none⟩ = some (.int .i64 q.ch) ∧ w.cell? ⟨Q, 2, none⟩ = some (.int .i64 q.wd) ∧ w.cell? ⟨Q, 3, none⟩ = some (.slice ao q.pl.length cap) :=
  have hh := (h.bs _ hx).1
  ⟨by rw [cell_of_row _ _ _ _ _ _ hh]; rfl, by rw [cell_of_row _ _ _ _ _ _ hh]; rfl, by rw [cell_of_row _ _ _ _ _ _ hh]; rfl, by rw [cell_of_row _ _ _ _ _ _ hh]; rfl⟩
end
theorem clamp (a : Int) (n : Nat) : ∃ x : Nat, max 0 (min a (n : Int)) = (x : Int) ∧ x ≤ n :=
  ⟨(max 0 (min a (n : Int))).toNat, by omega, by omega⟩
theorem slice_cut (p : Pcm) (f t : Nat) (hc : checkN p = 0) (hft : f ≤ t) (ht : t ≤ lenP p) : sliceP p f t = cutP p f t ∧ sliceN p f t = 0 := by
  have h : 0 ≤ (f : Int) ∧ (f : Int) ≤ t ∧ (t : Int) ≤ lenP p := ⟨by omega, by omega, by omega⟩
  unfold sliceP sliceN
  rw [if_pos ⟨hc, h⟩, if_pos hc, if_pos h]
  exact ⟨rfl, rfl⟩
theorem slice_cut_spec (p : Pcm) (ao : Option Addr) (cap : Nat) (f t : Nat) (w : World) (hr : RowsAt w ao p.pl) (hc : checkN p = 0) (hft : f ≤ t) (ht : t ≤ lenP p) : Calls Try.prog 22 #[pcmV p ao cap, .int .i64 f, .int .i64 t] w fun e w' => ∃ ao' cap', e = .returned (.tuple #[pcmV (cutP p f t) ao' cap', .int .i64 0]) ∧ Hid (RowsAt w' ao' (cutP p f t).pl) ∧ Hid (Below w.heap.size w w') := by
  have h := slice_cut p f t hc hft ht
  refine (slice_spec p ao cap f t w hr).mono fun e w' hg => ?_
  rw [h.1, h.2] at hg
  obtain ⟨ao', cap', h1, h2, _, h4⟩ := hg
  exact ⟨ao', cap', h1, h2, h4⟩
theorem pcms_three (W : World) (x y z : Pcm) (a b c : Option Addr) (ca cb cc : Nat) (fx : Fair x) (fy : Fair y) (fz : Fair z) (rx : RowsAt W a x.pl) (ry : RowsAt W b y.pl) (rz : RowsAt W c z.pl) :
    PcmsAt (W.alloc (.cells #[.int .i64 x.rate, .int .i64 x.ch, .int .i64 x.wd, .slice a x.pl.length ca, .int .i64 y.rate, .int .i64 y.ch, .int .i64 y.wd, .slice b y.pl.length cb, .int .i64 z.rate, .int .i64 z.ch, .int .i64 z.wd, .slice c z.pl.length cc] 24)) (some ⟨W.heap.size, 0, none⟩) [x, y, z] := by
  generalize hw1 : W.alloc _ = w1
  have hB : Below W.heap.size W w1 := by rw [← hw1]; exact (Below.refl _ _).alloc (Nat.le_refl _) _
  have hh : w1.heap[W.heap.size]? = some (.cells #[.int .i64 x.rate, .int .i64 x.ch, .int .i64 x.wd, .slice a x.pl.length ca, .int .i64 y.rate, .int .i64 y.ch, .int .i64 y.wd, .slice b y.pl.length cb, .int .i64 z.rate, .int .i64 z.ch, .int .i64 z.wd, .slice c z.pl.length cc] 24 (0, 0)) := by rw [← hw1]; exact heap_alloc_new _ _
  refine ⟨by show (3 : Nat) ≤ 2932031007403; decide, fun _ => ⟨W.heap.size, 0, rfl, fun i p hi => ?_⟩⟩
  match i, hi with
  | 0, hi =>
    obtain rfl : x = p := by simpa using hi
    exact ⟨a, ca, by rw [cell_of_row _ _ _ _ _ _ hh]; rfl, by rw [cell_of_row _ _ _ _ _ _ hh]; rfl, by rw [cell_of_row _ _ _ _ _ _ hh]; rfl, by rw [cell_of_row _ _ _ _ _ _ hh]; rfl, rx.below hB, fx⟩
  | 1, hi =>
    obtain rfl : y = p := by simpa using hi
    exact ⟨b, cb, by rw [cell_of_row _ _ _ _ _ _ hh]; rfl, by rw [cell_of_row _ _ _ _ _ _ hh]; rfl, by rw [cell_of_row _ _ _ _ _ _ hh]; rfl, by rw [cell_of_row _ _ _ _ _ _ hh]; rfl, ry.below hB, fy⟩
  | 2, hi =>
    obtain rfl : z = p := by simpa using hi
    exact ⟨c, cc, by rw [cell_of_row _ _ _ _ _ _ hh]; rfl, by rw [cell_of_row _ _ _ _ _ _ hh]; rfl, by rw [cell_of_row _ _ _ _ _ _ hh]; rfl, by rw [cell_of_row _ _ _ _ _ _ hh]; rfl, rz.below hB, fz⟩
  | n + 3, hi => simp at hi
theorem join_three (W : World) (p x y z : Pcm) (a b c : Option Addr) (ca cb cc : Nat) (fx : Fair x) (fy : Fair y) (fz : Fair z) (rx : RowsAt W a x.pl) (ry : RowsAt W b y.pl) (rz : RowsAt W c z.pl) (hE : joinE [x, y, z] = 0) (hP : joinP [x, y, z] = p) :
    Calls Try.prog 20 #[.slice (some ⟨W.heap.size, 0, none⟩) 3 3] (W.alloc (.cells #[.int .i64 x.rate, .int .i64 x.ch, .int .i64 x.wd, .slice a x.pl.length ca, .int .i64 y.rate, .int .i64 y.ch, .int .i64 y.wd, .slice b y.pl.length cb, .int .i64 z.rate, .int .i64 z.ch, .int .i64 z.wd, .slice c z.pl.length cc] 24)) fun e w' => ∃ ao cap, e = .returned (.tuple #[pcmV p ao cap, .int .i64 0]) ∧ RowsAt w' ao p.pl ∧ Below W.heap.size W w' := by
  have h := join_yes x [y, z] _ 3 _ (pcms_three W x y z a b c ca cb cc fx fy fz rx ry rz) hE
  rw [hP, hE] at h
  refine h.mono fun e w' hg => ?_
  obtain ⟨ao, cap, h1, h2, _, h4⟩ := hg
  exact ⟨ao, cap, h1, h2, ((Below.refl _ _).alloc (Nat.le_refl _) _).trans (h4.mono (by simp))⟩
theorem cutP_fair {p : Pcm} (h : Fair p) (f t : Nat) : Fair (cutP p f t) := ⟨h.r1, h.r2, h.c1, h.c2, h.w1, h.w2⟩

set_option maxRecDepth 20000 in
set_option maxHeartbeats 6400000 in
theorem walk (p : Pcm) (po : Option Addr) (pc : Nat) (fp : Fair p) (a : Int) (a1 : -9223372036854775808 ≤ a) (a2 : a ≤ 9223372036854775807) (b : Int) (b1 : -9223372036854775808 ≤ b) (b2 : b ≤ 9223372036854775807) (w : World) (rp : RowsAt w po p.pl) :
    Calls Try.prog 7 #[pcmV p po pc, .int .i64 a, .int .i64 b] w fun e w' => e = .returned (.bool true) ∧ Below w.heap.size w w' := by
  have HRP : Hid (RowsAt w po p.pl) := rp
  have HFP : Hid (Fair p) := fp
  have HB0 : Hid (Bx w p po pc (w.alloc (.cells (pcmC p po pc) 24))) := Bx.new w p po pc
  have KC : Hid (∀ wx, Hid (Bx w p po pc wx) → Calls Try.prog 8 #[pcmV p po pc] wx fun e w' => e = .returned (.int .i64 (checkN p)) ∧ Hid (Bx w p po pc w')) := fun wx hx => (check_spec p po pc wx (HRP.out.below hx.out.below)).mono fun e w' h => ⟨h.1, hx.out.next h.2⟩
  have KR : Hid (∀ wx, Hid (Bx w p po pc wx) → Calls Try.prog 9 #[pcmV p po pc] wx fun e w' => e = .returned (.int .i64 (checkN p)) ∧ Hid (Bx w p po pc w')) := fun wx hx => (rcheck_spec p po pc wx (HRP.out.below hx.out.below)).mono fun e w' h => ⟨h.1, hx.out.next h.2⟩
  have KL : Hid (∀ wx, Hid (Bx w p po pc wx) → Calls Try.prog 12 #[pcmV p po pc] wx fun e w' => e = .returned (.int .i64 (lenP p : Int)) ∧ Hid (Bx w p po pc w')) := fun wx hx => (len_spec p po pc wx (HRP.out.below hx.out.below)).mono fun e w' h => ⟨h.1, hx.out.next h.2⟩
  have KA : Hid (∀ wx, Hid (Bx w p po pc wx) → Calls Try.prog 14 #[] wx fun e w' => e = .returned (.bool true) ∧ Hid (Bx w p po pc w')) := fun wx hx => (awake_spec wx).mono fun e w' h => ⟨h.1, hx.out.next h.2⟩
  clear rp fp
  have d0 := HB0.out.c0
  have d1 := HB0.out.c1
  have d2 := HB0.out.c2
  have d3 := HB0.out.c3
  have kc := KC.out _ HB0
  by_cases hc : checkN p = 0
  · rw [hc] at kc
    have HC : Hid (checkN p = 0) := hc
    have hll := (ok_parts p hc).2.1
    clear hc KC KR
    obtain ⟨xa, ea1, ea3⟩ := clamp a (lenP p)
    obtain ⟨xb, eb1, eb3⟩ := clamp b (lenP p)
    by_cases hgt : xb < xa
    · 
      have HKS : Hid (∀ (f t : Nat) qs wx, f ≤ t → t ≤ lenP p → Hid (B3 w p po pc qs wx) → Calls Try.prog 22 #[pcmV p po pc, .int .i64 f, .int .i64 t] wx fun e w' => ∃ q ao' cap', e = .returned (.tuple #[pcmV q ao' cap', .int .i64 0]) ∧ Hid (q = cutP p f t) ∧ Hid (B3 w p po pc (qs ++ [(w'.heap.size, q, ao', cap')]) (w'.alloc (.cells (pcmC q ao' cap') 24)))) := fun f t qs wx h1 h2 hx => (slice_cut_spec p po pc f t wx (HRP.out.below hx.out.bx.below) HC.out h1 h2).mono fun e w' hg => by
        obtain ⟨ao', cap', g1, g2, g3⟩ := hg
        exact ⟨_, ao', cap', g1, rfl, (hx.out.next g3.out).new g2.out⟩
      go_enter Try.func7, Try.ntmps7
      go_wp2_with fail
      refine kc.mono ?_
      rintro e w2 ⟨rfl, b2⟩
      clear kc d0 d1 d2 d3 HB0
      have d0 := b2.out.c0
      have d1 := b2.out.c1
      have d2 := b2.out.c2
      have d3 := b2.out.c3
      have kl := KL.out w2 b2
      go_wp2_with fail
      refine kl.mono ?_
      rintro e w3 ⟨rfl, b3⟩
      clear kl b2 d0 d1 d2 d3
      have q3 : Hid (B3 w p po pc [] w3) := ⟨b3.out, fun x hx => absurd hx (by simp)⟩
      have d0 := b3.out.c0
      have d1 := b3.out.c1
      have d2 := b3.out.c2
      have d3 := b3.out.c3
      have ks := HKS.out 0 xb [] w3 (Nat.zero_le _) (by omega) q3
      clear b3 q3
      go_wp2_with fail
      refine ks.mono ?_
      rintro e w4 ⟨q4, a4, c4, rfl, e4, b4⟩
      clear ks d0 d1 d2 d3
      have d0 := b4.out.bx.c0
      have d1 := b4.out.bx.c1
      have d2 := b4.out.bx.c2
      have d3 := b4.out.bx.c3
      have ks := HKS.out xb xa _ _ (by omega) (by omega) b4
      clear b4
      go_wp2_with fail
      refine ks.mono ?_
      rintro e w5 ⟨q5, a5, c5, rfl, e5, b5⟩
      clear ks d0 d1 d2 d3
      have d0 := b5.out.bx.c0
      have d1 := b5.out.bx.c1
      have d2 := b5.out.bx.c2
      have d3 := b5.out.bx.c3
      have ks := HKS.out xa (lenP p) _ _ (by omega) (Nat.le_refl _) b5
      clear b5
      go_wp2_with fail
      refine ks.mono ?_
      rintro e w6 ⟨q6, a6, c6, rfl, e6, b6⟩
      clear ks d0 d1 d2 d3
      have d0 := b6.out.bx.c0
      have d1 := b6.out.bx.c1
      have d2 := b6.out.bx.c2
      have d3 := b6.out.bx.c3
      obtain ⟨x0, x1, x2, x3⟩ := b6.out.cells (List.mem_append_left _ (List.mem_append_left _ (List.mem_append_right _ (List.mem_singleton_self _))))
      obtain ⟨y0, y1, y2, y3⟩ := b6.out.cells (List.mem_append_left _ (List.mem_append_right _ (List.mem_singleton_self _)))
      obtain ⟨z0, z1, z2, z3⟩ := b6.out.cells (List.mem_append_right _ (List.mem_singleton_self _))
      have HJ : Hid (∀ (W : World), Hid (B3 w p po pc (([] ++ [(w4.heap.size, q4, a4, c4)]) ++ [(w5.heap.size, q5, a5, c5)] ++ [(w6.heap.size, q6, a6, c6)]) W) → Calls Try.prog 20 #[.slice (some ⟨W.heap.size, 0, none⟩) 3 3] (W.alloc (.cells #[.int .i64 q4.rate, .int .i64 q4.ch, .int .i64 q4.wd, .slice a4 q4.pl.length c4, .int .i64 q5.rate, .int .i64 q5.ch, .int .i64 q5.wd, .slice a5 q5.pl.length c5, .int .i64 q6.rate, .int .i64 q6.ch, .int .i64 q6.wd, .slice a6 q6.pl.length c6] 24)) fun e w' => ∃ ao cap, e = .returned (.tuple #[pcmV p ao cap, .int .i64 0]) ∧ Hid (B3 w p po pc ([] ++ [(w'.heap.size, p, ao, cap)]) (w'.alloc (.cells (pcmC p ao cap) 24)))) := fun W hW => by
        have hj := join_cuts p xb xa HC.out (by omega) (by omega)
        have r4 := (hW.out.bs _ (List.mem_append_left _ (List.mem_append_left _ (List.mem_append_right _ (List.mem_singleton_self _))))).2
        have r5 := (hW.out.bs _ (List.mem_append_left _ (List.mem_append_right _ (List.mem_singleton_self _)))).2
        have r6 := (hW.out.bs _ (List.mem_append_right _ (List.mem_singleton_self _))).2
        rw [← e4.out, ← e5.out, ← e6.out] at hj
        refine (join_three W p q4 q5 q6 a4 a5 a6 c4 c5 c6 (by rw [e4.out]; exact cutP_fair HFP.out _ _) (by rw [e5.out]; exact cutP_fair HFP.out _ _) (by rw [e6.out]; exact cutP_fair HFP.out _ _) r4 r5 r6 hj.1 hj.2).mono fun e w' hg => ?_
        obtain ⟨ao, cap, g1, g2, g3⟩ := hg
        exact ⟨ao, cap, g1, B3.new (qs := []) ⟨hW.out.bx.next g3, fun x hx => absurd hx (by simp)⟩ g2⟩
      have kj := HJ.out _ b6
      rw [show (w6.alloc (.cells (pcmC q6 a6 c6) 24)).heap.size = w6.heap.size + 1 from by simp] at kj
      clear HJ b6 e4 e5 e6
      go_wp2_with fail
      refine kj.mono ?_
      rintro e w7 ⟨a7, c7, rfl, b7⟩
      clear kj d0 d1 d2 d3 x0 x1 x2 x3 y0 y1 y2 y3 z0 z1 z2 z3
      have d0 := b7.out.bx.c0
      have d1 := b7.out.bx.c1
      have d2 := b7.out.bx.c2
      have d3 := b7.out.bx.c3
      obtain ⟨x0, x1, x2, x3⟩ := b7.out.cells (List.mem_append_right _ (List.mem_singleton_self _))
      have KS1 : Hid (∀ Q ao cap wx, Hid (B3 w p po pc ([] ++ [(Q, p, ao, cap)]) wx) → Calls Try.prog 17 #[pcmV p po pc, pcmV p ao cap] wx fun e w' => e = .returned (.bool true) ∧ Hid (Bx w p po pc w')) := fun Q ao cap wx hx => (rsame_spec p p po ao pc cap wx (HRP.out.below hx.out.bx.below) (hx.out.bs _ (List.mem_append_right _ (List.mem_singleton_self _))).2).mono fun e w' h => ⟨by rw [h.1, sameB_refl], hx.out.bx.next h.2⟩
      have ks := KS1.out _ _ _ _ b7
      clear KS1 b7
      go_wp2_with fail
      refine ks.mono ?_
      rintro e w8 ⟨rfl, b8⟩
      clear ks d0 d1 d2 d3 x0 x1 x2 x3
      have ka := KA.out w8 b8
      go_wp2_with fail
      refine ka.mono ?_
      rintro e w9 ⟨rfl, b9⟩
      clear ka
      go_wp2_with fail
      go_ret
      exact ⟨rfl, b9.out.below⟩
    · 
      have HKS : Hid (∀ (f t : Nat) qs wx, f ≤ t → t ≤ lenP p → Hid (B3 w p po pc qs wx) → Calls Try.prog 22 #[pcmV p po pc, .int .i64 f, .int .i64 t] wx fun e w' => ∃ q ao' cap', e = .returned (.tuple #[pcmV q ao' cap', .int .i64 0]) ∧ Hid (q = cutP p f t) ∧ Hid (B3 w p po pc (qs ++ [(w'.heap.size, q, ao', cap')]) (w'.alloc (.cells (pcmC q ao' cap') 24)))) := fun f t qs wx h1 h2 hx => (slice_cut_spec p po pc f t wx (HRP.out.below hx.out.bx.below) HC.out h1 h2).mono fun e w' hg => by
        obtain ⟨ao', cap', g1, g2, g3⟩ := hg
        exact ⟨_, ao', cap', g1, rfl, (hx.out.next g3.out).new g2.out⟩
      go_enter Try.func7, Try.ntmps7
      go_wp2_with fail
      refine kc.mono ?_
      rintro e w2 ⟨rfl, b2⟩
      clear kc d0 d1 d2 d3 HB0
      have d0 := b2.out.c0
      have d1 := b2.out.c1
      have d2 := b2.out.c2
      have d3 := b2.out.c3
      have kl := KL.out w2 b2
      go_wp2_with fail
      refine kl.mono ?_
      rintro e w3 ⟨rfl, b3⟩
      clear kl b2 d0 d1 d2 d3
      have q3 : Hid (B3 w p po pc [] w3) := ⟨b3.out, fun x hx => absurd hx (by simp)⟩
      have d0 := b3.out.c0
      have d1 := b3.out.c1
      have d2 := b3.out.c2
      have d3 := b3.out.c3
      have ks := HKS.out 0 xa [] w3 (Nat.zero_le _) (by omega) q3
      clear b3 q3
      go_wp2_with fail
      refine ks.mono ?_
      rintro e w4 ⟨q4, a4, c4, rfl, e4, b4⟩
      clear ks d0 d1 d2 d3
      have d0 := b4.out.bx.c0
      have d1 := b4.out.bx.c1
      have d2 := b4.out.bx.c2
      have d3 := b4.out.bx.c3
      have ks := HKS.out xa xb _ _ (by omega) (by omega) b4
      clear b4
      go_wp2_with fail
      refine ks.mono ?_
      rintro e w5 ⟨q5, a5, c5, rfl, e5, b5⟩
      clear ks d0 d1 d2 d3
      have d0 := b5.out.bx.c0
      have d1 := b5.out.bx.c1
      have d2 := b5.out.bx.c2
      have d3 := b5.out.bx.c3
      have ks := HKS.out xb (lenP p) _ _ (by omega) (Nat.le_refl _) b5
      clear b5
      go_wp2_with fail
      refine ks.mono ?_
      rintro e w6 ⟨q6, a6, c6, rfl, e6, b6⟩
      clear ks d0 d1 d2 d3
      have d0 := b6.out.bx.c0
      have d1 := b6.out.bx.c1
      have d2 := b6.out.bx.c2
      have d3 := b6.out.bx.c3
      obtain ⟨x0, x1, x2, x3⟩ := b6.out.cells (List.mem_append_left _ (List.mem_append_left _ (List.mem_append_right _ (List.mem_singleton_self _))))
      obtain ⟨y0, y1, y2, y3⟩ := b6.out.cells (List.mem_append_left _ (List.mem_append_right _ (List.mem_singleton_self _)))
      obtain ⟨z0, z1, z2, z3⟩ := b6.out.cells (List.mem_append_right _ (List.mem_singleton_self _))
      have HJ : Hid (∀ (W : World), Hid (B3 w p po pc (([] ++ [(w4.heap.size, q4, a4, c4)]) ++ [(w5.heap.size, q5, a5, c5)] ++ [(w6.heap.size, q6, a6, c6)]) W) → Calls Try.prog 20 #[.slice (some ⟨W.heap.size, 0, none⟩) 3 3] (W.alloc (.cells #[.int .i64 q4.rate, .int .i64 q4.ch, .int .i64 q4.wd, .slice a4 q4.pl.length c4, .int .i64 q5.rate, .int .i64 q5.ch, .int .i64 q5.wd, .slice a5 q5.pl.length c5, .int .i64 q6.rate, .int .i64 q6.ch, .int .i64 q6.wd, .slice a6 q6.pl.length c6] 24)) fun e w' => ∃ ao cap, e = .returned (.tuple #[pcmV p ao cap, .int .i64 0]) ∧ Hid (B3 w p po pc ([] ++ [(w'.heap.size, p, ao, cap)]) (w'.alloc (.cells (pcmC p ao cap) 24)))) := fun W hW => by
        have hj := join_cuts p xa xb HC.out (by omega) (by omega)
        have r4 := (hW.out.bs _ (List.mem_append_left _ (List.mem_append_left _ (List.mem_append_right _ (List.mem_singleton_self _))))).2
        have r5 := (hW.out.bs _ (List.mem_append_left _ (List.mem_append_right _ (List.mem_singleton_self _)))).2
        have r6 := (hW.out.bs _ (List.mem_append_right _ (List.mem_singleton_self _))).2
        rw [← e4.out, ← e5.out, ← e6.out] at hj
        refine (join_three W p q4 q5 q6 a4 a5 a6 c4 c5 c6 (by rw [e4.out]; exact cutP_fair HFP.out _ _) (by rw [e5.out]; exact cutP_fair HFP.out _ _) (by rw [e6.out]; exact cutP_fair HFP.out _ _) r4 r5 r6 hj.1 hj.2).mono fun e w' hg => ?_
        obtain ⟨ao, cap, g1, g2, g3⟩ := hg
        exact ⟨ao, cap, g1, B3.new (qs := []) ⟨hW.out.bx.next g3, fun x hx => absurd hx (by simp)⟩ g2⟩
      have kj := HJ.out _ b6
      rw [show (w6.alloc (.cells (pcmC q6 a6 c6) 24)).heap.size = w6.heap.size + 1 from by simp] at kj
      clear HJ b6 e4 e5 e6
      go_wp2_with fail
      refine kj.mono ?_
      rintro e w7 ⟨a7, c7, rfl, b7⟩
      clear kj d0 d1 d2 d3 x0 x1 x2 x3 y0 y1 y2 y3 z0 z1 z2 z3
      have d0 := b7.out.bx.c0
      have d1 := b7.out.bx.c1
      have d2 := b7.out.bx.c2
      have d3 := b7.out.bx.c3
      obtain ⟨x0, x1, x2, x3⟩ := b7.out.cells (List.mem_append_right _ (List.mem_singleton_self _))
      have KS1 : Hid (∀ Q ao cap wx, Hid (B3 w p po pc ([] ++ [(Q, p, ao, cap)]) wx) → Calls Try.prog 17 #[pcmV p po pc, pcmV p ao cap] wx fun e w' => e = .returned (.bool true) ∧ Hid (Bx w p po pc w')) := fun Q ao cap wx hx => (rsame_spec p p po ao pc cap wx (HRP.out.below hx.out.bx.below) (hx.out.bs _ (List.mem_append_right _ (List.mem_singleton_self _))).2).mono fun e w' h => ⟨by rw [h.1, sameB_refl], hx.out.bx.next h.2⟩
      have ks := KS1.out _ _ _ _ b7
      clear KS1 b7
      go_wp2_with fail
      refine ks.mono ?_
      rintro e w8 ⟨rfl, b8⟩
      clear ks d0 d1 d2 d3 x0 x1 x2 x3
      have ka := KA.out w8 b8
      go_wp2_with fail
      refine ka.mono ?_
      rintro e w9 ⟨rfl, b9⟩
      clear ka
      go_wp2_with fail
      go_ret
      exact ⟨rfl, b9.out.below⟩
  · have hbc : (checkN p == 0) = false := by rw [beq_eq_false_iff_ne]; exact hc
    generalize checkN p = cn at *
    go_enter Try.func7, Try.ntmps7
    go_wp2_with fail
    refine kc.mono ?_
    rintro e w2 ⟨rfl, b2⟩
    clear kc d0 d1 d2 d3 HB0
    have d0 := b2.out.c0
    have d1 := b2.out.c1
    have d2 := b2.out.c2
    have d3 := b2.out.c3
    have kr := KR.out w2 b2
    go_wp2_with fail
    refine kr.mono ?_
    rintro e w3 ⟨rfl, b3⟩
    clear kr b2 d0 d1 d2 d3
    have ka := KA.out w3 b3
    go_wp2_with fail
    refine ka.mono ?_
    rintro e w4 ⟨rfl, b4⟩
    clear ka
    go_wp2_with fail
    go_ret
    exact ⟨rfl, b4.out.below⟩


set_option maxRecDepth 100000 in
theorem lifted (os : Os) (started : os.Started) (H : Type) (enc : TypeId × Value → H) :
    ReturnsInHanded {} Try.checked os 7 .any (Rows.pcmCutsSpec.pre6 enc Try.prog Try.f7 Rows.pcmCutsRow.domain false) (Rows.pcmCutsSpec.post enc Try.prog Try.f7 false true false false) := by
  refine returnsInHanded_of_change_sized (C := Try.checked) own started (by kernel_rfl) Try.func7
    (ChangeSpec.witness6 (enc := enc) (C := Try.checked) false ⟨#[], #[.agg #[.int .i64 0, .int .i64 0, .int .i64 0, .slice none 0 0], .int .i64 0, .int .i64 0], []⟩ 8 (by kernel_rfl) (by kernel_rfl) (by kernel_rfl) (by kernel_rfl)) ?_
  intro W base args ds gs before hval0 hW hcnd0 hsz0 hholds
  have hval : ∀ (j : Nat) t v, Try.f7.params[j]? = some t → args[j]? = some v → Value.okWide Try.prog W .any base t v := hval0
  have hsz : (DataW.weightsEach Try.prog (Try.f7.params.toList ++ Rows.pcmCutsSpec.plain.varTypes Try.prog) (ds ++ gs)).all (· ≤ reachBytes) = true := hsz0
  have hW' := hW
  obtain ⟨p, q, hA0, hV, rfl, hfz, hnd⟩ := hW
  have hA : DataW.TrodAll enc Try.prog W 0 (fun _ => true) true Try.f7.params.toList args.toList ds p := hA0
  rw [Try.params7] at hA hval hsz
  obtain ⟨v0, vs0, d0, ds0, p0, q0, hargs, rfl, rfl, h0, r0⟩ := trodAll_cons hA
  obtain ⟨v1, vs1, d1, ds1, p1, q1, rfl, rfl, rfl, h1, r1⟩ := trodAll_cons r0
  obtain ⟨v2, vs2, d2, ds2, p2, q2, rfl, rfl, rfl, h2, r2⟩ := trodAll_cons r1
  obtain ⟨rfl, rfl, rfl⟩ := trodAll_nil r2
  obtain rfl : args = #[v0, v1, v2] := by cases args; simp_all
  obtain ⟨rfl, rfl⟩ := trodVars_none hV
  have hall := List.all_eq_true.1 hsz
  have hw0 : ∀ n ∈ d0.weights Try.prog 24, n ≤ reachBytes := fun n hn => by
    have := hall n (List.mem_append.2 (.inl hn))
    exact of_decide_eq_true this
  have k0 := h0
  have lt0 : ∀ x ∈ p0, x.block < W.heap.size := by obtain ⟨m, hm⟩ := k0; exact DataW.trod_lt m _ _ _ hm
  obtain ⟨x0, o0, c0, rfl, hr0, hf0⟩ := open_pcm0 (hval 0 24 v0 rfl rfl) h0 hw0
  obtain ⟨x1, rfl, rfl, rfl, i1⟩ := open_int Try.underlying3 (hval 1 3 v1 rfl rfl) h1
  have ib1 := bounds_i64 i1
  obtain ⟨x2, rfl, rfl, rfl, i2⟩ := open_int Try.underlying3 (hval 2 3 v2 rfl rfl) h2
  have ib2 := bounds_i64 i2
  clear hA0 hval0
  refine (walk x0 o0 c0 hf0 x1 ib1.1 ib1.2 x2 ib2.1 ib2.2 W hr0).mono fun e W' ⟨he, bel⟩ => ?_
  subst he
  exact ⟨_, rfl, _, _, _, [], _, [], hW', trodAll_mk1 (shut_bool Try.underlying4 _), (trodAll_cons_mk (Below.trod laidOut (by kernel_rfl) (of_decide_eq_true (by kernel_rfl)) k0 bel lt0) (trodAll_cons_mk (shut_int Try.underlying3 i1) (trodAll_cons_mk (shut_int Try.underlying3 i2) trodAll_mk0))), rfl, bel.frame _, fun h => by cases h⟩

theorem over : Rows.pcmCutsRow.holds Try.pinned (OpenSpec.ofChange Rows.pcmCutsSpec) :=
  OpenClaim.holds_of_wide 7 Try.f7 rfl rfl rfl rfl rfl rfl rfl ⟨rfl, rfl, rfl, rfl, rfl⟩ rfl rfl rfl rfl rfl (by kernel_rfl) Try.func7 (by kernel_rfl)
    (of_decide_eq_true (by kernel_rfl)) (by unfold Func.isWrapper; first | (rw [if_pos (by decide +kernel)]; kernel_rfl) | (rw [if_neg (by decide +kernel)]; exact ⟨rfl, rfl⟩))
    (fun os started H enc _ => lifted os started H enc)

end Go.Proofs.Ytolmijpecomkcaa.pcmCuts
namespace Go.Proofs.Ytolmijpecomkcaa
theorem pcmCuts_holds : Rows.PcmCutsSaid := pcmCuts.over
#print axioms pcmCuts_holds
end Go.Proofs.Ytolmijpecomkcaa
