/-
  Own text: for every PCM, every text and every layout: what the program packs it unpacks as it was, and what it unpacks it packs as it was. No condition.
-/
import Derived.Test.YtolmijpecomkcaaQ5link
import Derived.Test.YtolmijpecomkcaaQ5args
import Derived.Test.YtolmijpecomkcaaQ5same
import Derived.WalkKit
import Derived.ProofKit
import Derived.OpenShut
import Derived.ShutString
import Derived.ChangeOld
import Derived.Below
import Derived.SizedLaws
namespace Go.Proofs.Ytolmijpecomkcaa.pcmBack
open Go.ChangeShapes Go.WideShapes Go.ChangeAt Go.RowKit
open Go.ChangeMaps (open_string shut_string)
set_option linter.unusedSimpArgs false
set_option linter.unusedVariables false

theorem own : ownKnob Try.prog.godebug = none := by kernel_rfl
theorem laidOut : laidOutB Try.prog = true := by kernel_rfl

structure Bl (w0 : World) (p : Pcm) (po : Option Addr) (pc : Nat) (kg ku : Bool) (w : World) : Prop where
  bx : Bx w0 p po pc w
  ly : w.heap[w0.heap.size + 1]? = some (.cells #[.bool kg, .bool ku] 34 (0, 0))
structure B2 (w0 : World) (p : Pcm) (po : Option Addr) (pc : Nat) (kg ku : Bool) (Q : Nat) (q : Pcm) (ao : Option Addr) (cap : Nat) (w : World) : Prop where
  bl : Bl w0 p po pc kg ku w
  bq : w.heap[Q]? = some (.cells (pcmC q ao cap) 24 (0, 0))
  rq : RowsAt w ao q.pl
section
variable {w0 w w' : World} {p q : Pcm} {po ao : Option Addr} {pc cap Q : Nat} {kg ku : Bool}
theorem Bl.next (h : Bl w0 p po pc kg ku w) (hB : Below w.heap.size w w') : Bl w0 p po pc kg ku w' := ⟨h.bx.next hB, by rw [hB.block _ (lt_of_block h.ly)]; exact h.ly⟩
theorem B2.next (h : B2 w0 p po pc kg ku Q q ao cap w) (hB : Below w.heap.size w w') : B2 w0 p po pc kg ku Q q ao cap w' := ⟨h.bl.next hB, by rw [hB.block _ (lt_of_block h.bq)]; exact h.bq, h.rq.below hB⟩
theorem Bl.l0 (h : Bl w0 p po pc kg ku w) : w.cell? ⟨w0.heap.size + 1, 0, none⟩ = some (.bool kg) := by rw [cell_of_row _ _ _ _ _ _ h.ly]; rfl
theorem Bl.l1 (h : Bl w0 p po pc kg ku w) : w.cell? ⟨w0.heap.size + 1, 1, none⟩ = some (.bool ku) := by rw [cell_of_row _ _ _ _ _ _ h.ly]; rfl
theorem B2.q0 (h : B2 w0 p po pc kg ku Q q ao cap w) : w.cell? ⟨Q, 0, none⟩ = some (.int .i64 q.rate) := by rw [cell_of_row _ _ _ _ _ _ h.bq]; rfl
theorem B2.q1 (h : B2 w0 p po pc kg ku Q q ao cap w) : w.cell? ⟨Q, 1, none⟩ = some (.int .i64 q.ch) := by rw [cell_of_row _ _ _ _ _ _ h.bq]; rfl
theorem B2.q2 (h : B2 w0 p po pc kg ku Q q ao cap w) : w.cell? ⟨Q, 2, none⟩ = some (.int .i64 q.wd) := by rw [cell_of_row _ _ _ _ _ _ h.bq]; rfl
theorem B2.q3 (h : B2 w0 p po pc kg ku Q q ao cap w) : w.cell? ⟨Q, 3, none⟩ = some (.slice ao q.pl.length cap) := by rw [cell_of_row _ _ _ _ _ _ h.bq]; rfl
theorem B2.new (h : Bl w0 p po pc kg ku w) (hr : RowsAt w ao q.pl) : B2 w0 p po pc kg ku w.heap.size q ao cap (w.alloc (.cells (pcmC q ao cap) 24)) :=
  have hB : Below w.heap.size w (w.alloc (.cells (pcmC q ao cap) 24)) := (Below.refl _ _).alloc (Nat.le_refl _) _
  ⟨h.next hB, heap_alloc_new _ _, hr.below hB⟩
theorem Bl.new (w : World) (p : Pcm) (po : Option Addr) (pc : Nat) (kg ku : Bool) : Bl w p po pc kg ku ((w.alloc (.cells (pcmC p po pc) 24)).alloc (.cells #[.bool kg, .bool ku] 34)) := by
  refine ⟨(Bx.new w p po pc).next ((Below.refl _ _).alloc (Nat.le_refl _) _), ?_⟩
  have hh := heap_alloc_new (w.alloc (.cells (pcmC p po pc) 24)) (.cells #[.bool kg, .bool ku] 34)
  rw [show (w.alloc (.cells (pcmC p po pc) 24)).heap.size = w.heap.size + 1 from by simp] at hh
  exact hh
end

set_option maxRecDepth 20000 in
set_option maxHeartbeats 6400000 in
theorem walk (p : Pcm) (po : Option Addr) (pc : Nat) (fp : Fair p) (s : ByteArray) (hs : s.size ≤ 140737488351232) (kg ku : Bool) (w : World) (rp : RowsAt w po p.pl) :
    Calls Try.prog 5 #[pcmV p po pc, .string s, .agg #[.bool kg, .bool ku]] w fun e w' => e = .returned (.bool true) ∧ Below w.heap.size w w' := by
  have HRP : Hid (RowsAt w po p.pl) := rp
  have HB0 : Hid (Bl w p po pc kg ku ((w.alloc (.cells (pcmC p po pc) 24)).alloc (.cells #[.bool kg, .bool ku] 34))) := Bl.new w p po pc kg ku
  have KP : Hid (∀ wx, Hid (Bl w p po pc kg ku wx) → Calls Try.prog 18 #[pcmV p po pc, .agg #[.bool kg, .bool ku]] wx fun e w' => e = .returned (.tuple #[.string (pakN p kg ku), .int .i64 (checkN p)]) ∧ Hid (Bl w p po pc kg ku w')) := fun wx hx => (pack_spec p po pc kg ku wx (HRP.out.below hx.out.bx.below)).mono fun e w' h => ⟨h.1, hx.out.next h.2⟩
  have KS1 : Hid (∀ Q ao cap wx, Hid (B2 w p po pc kg ku Q p ao cap wx) → Calls Try.prog 17 #[pcmV p po pc, pcmV p ao cap] wx fun e w' => e = .returned (.bool true) ∧ Hid (B2 w p po pc kg ku Q p ao cap w')) := fun Q ao cap wx hx => (rsame_spec p p po ao pc cap wx (HRP.out.below hx.out.bl.bx.below) hx.out.rq).mono fun e w' h => ⟨by rw [h.1, sameB_refl], hx.out.next h.2⟩
  have KS2 : Hid (∀ Q ao cap wx, Hid (B2 w p po pc kg ku Q p ao cap wx) → Calls Try.prog 19 #[pcmV p po pc, pcmV p ao cap] wx fun e w' => e = .returned (.bool true) ∧ Hid (B2 w p po pc kg ku Q p ao cap w')) := fun Q ao cap wx hx => (same_spec p p po ao pc cap wx (HRP.out.below hx.out.bl.bx.below) hx.out.rq).mono fun e w' h => ⟨by rw [h.1, sameB_refl], hx.out.next h.2⟩
  have KU2 : Hid (∀ wx, Hid (Bl w p po pc kg ku wx) → Calls Try.prog 15 #[.string s, .int .i64 p.rate, .int .i64 p.ch, .int .i64 p.wd, .agg #[.bool kg, .bool ku]] wx fun e w' => ∃ ao cap, e = .returned (.tuple #[pcmV (unpP s p.rate p.ch p.wd kg ku) ao cap, .int .i64 (unpE s p.rate p.ch p.wd kg ku)]) ∧ Hid (RowsAt w' ao (unpP s p.rate p.ch p.wd kg ku).pl) ∧ Hid (Bl w p po pc kg ku w')) := fun wx hx => (unpack_spec s p.rate p.ch p.wd kg ku wx (by omega)).mono fun e w' h => by
    obtain ⟨ao, cap, h1, h2, _, h4⟩ := h
    rw [uP_unpP, uE_unpE] at h1
    rw [uP_unpP] at h2
    exact ⟨ao, cap, h1, h2, hx.out.next h4⟩
  have KA : Hid (∀ wx, Hid (Bl w p po pc kg ku wx) → Calls Try.prog 14 #[] wx fun e w' => e = .returned (.bool true) ∧ Hid (Bl w p po pc kg ku w')) := fun wx hx => (awake_spec wx).mono fun e w' h => ⟨h.1, hx.out.next h.2⟩
  have KQ0 : Hid (unpE s p.rate p.ch p.wd kg ku = 0 → ∀ Q ao cap wx, Hid (B2 w p po pc kg ku Q (unpP s p.rate p.ch p.wd kg ku) ao cap wx) → Calls Try.prog 18 #[pcmV (unpP s p.rate p.ch p.wd kg ku) ao cap, .agg #[.bool kg, .bool ku]] wx fun e w' => e = .returned (.tuple #[.string s, .int .i64 0]) ∧ Hid (Bl w p po pc kg ku w')) := fun her Q ao cap wx hx => by
    obtain ⟨hc, ht⟩ := pack_unpack s p.rate p.ch p.wd kg ku her
    refine (pack_spec _ ao cap kg ku wx hx.out.rq).mono fun e w' h => ⟨?_, hx.out.bl.next h.2⟩
    rw [h.1, hc]
    unfold pakN
    rw [if_pos hc, ht]
  have HUP : Hid (checkN p = 0 → ∀ wx, Hid (Bl w p po pc kg ku wx) → Calls Try.prog 15 #[.string (pakN p kg ku), .int .i64 p.rate, .int .i64 p.ch, .int .i64 p.wd, .agg #[.bool kg, .bool ku]] wx fun e w' => ∃ ao cap, e = .returned (.tuple #[pcmV p ao cap, .int .i64 0]) ∧ Hid (RowsAt w' ao p.pl) ∧ Hid (Bl w p po pc kg ku w')) := fun hc wx hx => by
    have e : pakN p kg ku = textOf (packL p kg ku (lenP p)) := by unfold pakN; rw [if_pos hc]
    obtain ⟨h0, hp⟩ := unpack_pack p kg ku hc
    have hk := ok_parts p hc
    have hh := check_head_ok p hc
    have hn := (nby_range p.wd (by omega) (by omega)).2.1
    have hsz : (textOf (packL p kg ku (lenP p))).size ≤ 1000000000000000000 := by
      rw [packed_size]
      exact Nat.le_trans (Nat.mul_le_mul hk.2.1 (Nat.mul_le_mul (show p.ch.toNat ≤ 8 by omega) hn)) (by decide)
    rw [e]
    refine (unpack_spec _ p.rate p.ch p.wd kg ku wx hsz).mono fun e w' h => ?_
    obtain ⟨ao, cap, h1, h2, _, h4⟩ := h
    rw [uP_unpP, uE_unpE, h0, hp] at h1
    rw [uP_unpP, hp] at h2
    exact ⟨ao, cap, h1, h2, hx.out.next h4⟩
  clear rp
  have d0 := HB0.out.bx.c0
  have d1 := HB0.out.bx.c1
  have d2 := HB0.out.bx.c2
  have d3 := HB0.out.bx.c3
  have d4 := HB0.out.l0
  have d5 := HB0.out.l1
  have kp0 := KP.out _ HB0
  generalize unpP s p.rate p.ch p.wd kg ku = q at *
  generalize hern : unpE s p.rate p.ch p.wd kg ku = er at *
  clear hern
  by_cases hc : checkN p = 0
  · have KU1 : Hid (∀ wx, Hid (Bl w p po pc kg ku wx) → Calls Try.prog 15 #[.string (pakN p kg ku), .int .i64 p.rate, .int .i64 p.ch, .int .i64 p.wd, .agg #[.bool kg, .bool ku]] wx fun e w' => ∃ ao cap, e = .returned (.tuple #[pcmV p ao cap, .int .i64 0]) ∧ Hid (RowsAt w' ao p.pl) ∧ Hid (Bl w p po pc kg ku w')) := HUP.out hc
    rw [hc] at kp0
    clear hc HUP KP HRP
    generalize pakN p kg ku = T at *
    by_cases her : er = 0
    · have KQ : Hid (∀ Q ao cap wx, Hid (B2 w p po pc kg ku Q q ao cap wx) → Calls Try.prog 18 #[pcmV q ao cap, .agg #[.bool kg, .bool ku]] wx fun e w' => e = .returned (.tuple #[.string s, .int .i64 0]) ∧ Hid (Bl w p po pc kg ku w')) := KQ0.out her
      subst her
      clear KQ0
      go_enter Try.func5, Try.ntmps5
      go_wp2_with fail
      refine kp0.mono ?_
      rintro e w2 ⟨rfl, b2⟩
      clear kp0 d0 d1 d2 d3 d4 d5 HB0
      have d0 := b2.out.bx.c0
      have d1 := b2.out.bx.c1
      have d2 := b2.out.bx.c2
      have d3 := b2.out.bx.c3
      have d4 := b2.out.l0
      have d5 := b2.out.l1
      have ku1 := KU1.out w2 b2
      go_wp2_with fail
      refine ku1.mono ?_
      rintro e w3 ⟨a3, c3, rfl, r3, b3⟩
      clear ku1 b2 d0 d1 d2 d3 d4 d5
      have b4 : Hid (B2 w p po pc kg ku w3.heap.size p a3 c3 (w3.alloc (.cells (pcmC p a3 c3) 24))) := B2.new b3.out r3.out
      have d0 := b4.out.bl.bx.c0
      have d1 := b4.out.bl.bx.c1
      have d2 := b4.out.bl.bx.c2
      have d3 := b4.out.bl.bx.c3
      have d4 := b4.out.bl.l0
      have d5 := b4.out.bl.l1
      have y0 := b4.out.q0
      have y1 := b4.out.q1
      have y2 := b4.out.q2
      have y3 := b4.out.q3
      have ks := KS1.out w3.heap.size a3 c3 _ b4
      go_wp2_with fail
      refine ks.mono ?_
      rintro e w5 ⟨rfl, b5⟩
      clear ks b3 r3 b4 d0 d1 d2 d3 d4 d5 y0 y1 y2 y3
      have d0 := b5.out.bl.bx.c0
      have d1 := b5.out.bl.bx.c1
      have d2 := b5.out.bl.bx.c2
      have d3 := b5.out.bl.bx.c3
      have d4 := b5.out.bl.l0
      have d5 := b5.out.bl.l1
      have y0 := b5.out.q0
      have y1 := b5.out.q1
      have y2 := b5.out.q2
      have y3 := b5.out.q3
      have ks := KS2.out w3.heap.size a3 c3 _ b5
      go_wp2_with fail
      refine ks.mono ?_
      rintro e w6 ⟨rfl, b6⟩
      have b2 : Hid (Bl w p po pc kg ku w6) := b6.out.bl
      clear ks b5 b6 d0 d1 d2 d3 d4 d5 y0 y1 y2 y3
      have d0 := b2.out.bx.c0
      have d1 := b2.out.bx.c1
      have d2 := b2.out.bx.c2
      have d3 := b2.out.bx.c3
      have d4 := b2.out.l0
      have d5 := b2.out.l1
      have ku2 := KU2.out w6 b2
      go_wp2_with fail
      refine ku2.mono ?_
      rintro e w7 ⟨a7, c7, rfl, r7, b7⟩
      clear ku2 b2 d0 d1 d2 d3 d4 d5
      have b8 : Hid (B2 w p po pc kg ku w7.heap.size q a7 c7 (w7.alloc (.cells (pcmC q a7 c7) 24))) := B2.new b7.out r7.out
      have d0 := b8.out.bl.bx.c0
      have d1 := b8.out.bl.bx.c1
      have d2 := b8.out.bl.bx.c2
      have d3 := b8.out.bl.bx.c3
      have d4 := b8.out.bl.l0
      have d5 := b8.out.bl.l1
      have y0 := b8.out.q0
      have y1 := b8.out.q1
      have y2 := b8.out.q2
      have y3 := b8.out.q3
      have kq := KQ.out w7.heap.size a7 c7 _ b8
      go_wp2_with fail
      refine kq.mono ?_
      rintro e w9 ⟨rfl, b9⟩
      clear kq b7 r7 b8 d0 d1 d2 d3 d4 d5 y0 y1 y2 y3
      have ka := KA.out w9 b9
      go_wp2_with fail
      refine ka.mono ?_
      rintro e wz ⟨rfl, bz⟩
      go_wp2_with fail
      go_ret
      exact ⟨rfl, bz.out.bx.below⟩
    · have hbn : (er == 0) = false := by rw [beq_eq_false_iff_ne]; exact her
      clear KQ0
      go_enter Try.func5, Try.ntmps5
      go_wp2_with fail
      refine kp0.mono ?_
      rintro e w2 ⟨rfl, b2⟩
      clear kp0 d0 d1 d2 d3 d4 d5 HB0
      have d0 := b2.out.bx.c0
      have d1 := b2.out.bx.c1
      have d2 := b2.out.bx.c2
      have d3 := b2.out.bx.c3
      have d4 := b2.out.l0
      have d5 := b2.out.l1
      have ku1 := KU1.out w2 b2
      go_wp2_with fail
      refine ku1.mono ?_
      rintro e w3 ⟨a3, c3, rfl, r3, b3⟩
      clear ku1 b2 d0 d1 d2 d3 d4 d5
      have b4 : Hid (B2 w p po pc kg ku w3.heap.size p a3 c3 (w3.alloc (.cells (pcmC p a3 c3) 24))) := B2.new b3.out r3.out
      have d0 := b4.out.bl.bx.c0
      have d1 := b4.out.bl.bx.c1
      have d2 := b4.out.bl.bx.c2
      have d3 := b4.out.bl.bx.c3
      have d4 := b4.out.bl.l0
      have d5 := b4.out.bl.l1
      have y0 := b4.out.q0
      have y1 := b4.out.q1
      have y2 := b4.out.q2
      have y3 := b4.out.q3
      have ks := KS1.out w3.heap.size a3 c3 _ b4
      go_wp2_with fail
      refine ks.mono ?_
      rintro e w5 ⟨rfl, b5⟩
      clear ks b3 r3 b4 d0 d1 d2 d3 d4 d5 y0 y1 y2 y3
      have d0 := b5.out.bl.bx.c0
      have d1 := b5.out.bl.bx.c1
      have d2 := b5.out.bl.bx.c2
      have d3 := b5.out.bl.bx.c3
      have d4 := b5.out.bl.l0
      have d5 := b5.out.bl.l1
      have y0 := b5.out.q0
      have y1 := b5.out.q1
      have y2 := b5.out.q2
      have y3 := b5.out.q3
      have ks := KS2.out w3.heap.size a3 c3 _ b5
      go_wp2_with fail
      refine ks.mono ?_
      rintro e w6 ⟨rfl, b6⟩
      have b2 : Hid (Bl w p po pc kg ku w6) := b6.out.bl
      clear ks b5 b6 d0 d1 d2 d3 d4 d5 y0 y1 y2 y3
      have d0 := b2.out.bx.c0
      have d1 := b2.out.bx.c1
      have d2 := b2.out.bx.c2
      have d3 := b2.out.bx.c3
      have d4 := b2.out.l0
      have d5 := b2.out.l1
      have ku2 := KU2.out w6 b2
      go_wp2_with fail
      refine ku2.mono ?_
      rintro e w7 ⟨a7, c7, rfl, r7, b7⟩
      clear ku2 b2 d0 d1 d2 d3 d4 d5
      have b8 : Hid (B2 w p po pc kg ku w7.heap.size q a7 c7 (w7.alloc (.cells (pcmC q a7 c7) 24))) := B2.new b7.out r7.out
      have d0 := b8.out.bl.bx.c0
      have d1 := b8.out.bl.bx.c1
      have d2 := b8.out.bl.bx.c2
      have d3 := b8.out.bl.bx.c3
      have d4 := b8.out.bl.l0
      have d5 := b8.out.bl.l1
      have y0 := b8.out.q0
      have y1 := b8.out.q1
      have y2 := b8.out.q2
      have y3 := b8.out.q3
      have ka := KA.out _ (show Hid (Bl w p po pc kg ku _) from b8.out.bl)
      go_wp2_with fail
      refine ka.mono ?_
      rintro e wz ⟨rfl, bz⟩
      go_wp2_with fail
      go_ret
      exact ⟨rfl, bz.out.bx.below⟩
  · have hbc : (checkN p == 0) = false := by rw [beq_eq_false_iff_ne]; exact hc
    clear HUP KP HRP KS1 KS2
    generalize checkN p = cn at *
    generalize pakN p kg ku = T at *
    by_cases her : er = 0
    · have KQ : Hid (∀ Q ao cap wx, Hid (B2 w p po pc kg ku Q q ao cap wx) → Calls Try.prog 18 #[pcmV q ao cap, .agg #[.bool kg, .bool ku]] wx fun e w' => e = .returned (.tuple #[.string s, .int .i64 0]) ∧ Hid (Bl w p po pc kg ku w')) := KQ0.out her
      subst her
      clear KQ0
      go_enter Try.func5, Try.ntmps5
      go_wp2_with fail
      refine kp0.mono ?_
      rintro e w2 ⟨rfl, b2⟩
      clear kp0 d0 d1 d2 d3 d4 d5 HB0
      have d0 := b2.out.bx.c0
      have d1 := b2.out.bx.c1
      have d2 := b2.out.bx.c2
      have d3 := b2.out.bx.c3
      have d4 := b2.out.l0
      have d5 := b2.out.l1
      have ku2 := KU2.out w2 b2
      go_wp2_with fail
      refine ku2.mono ?_
      rintro e w7 ⟨a7, c7, rfl, r7, b7⟩
      clear ku2 b2 d0 d1 d2 d3 d4 d5
      have b8 : Hid (B2 w p po pc kg ku w7.heap.size q a7 c7 (w7.alloc (.cells (pcmC q a7 c7) 24))) := B2.new b7.out r7.out
      have d0 := b8.out.bl.bx.c0
      have d1 := b8.out.bl.bx.c1
      have d2 := b8.out.bl.bx.c2
      have d3 := b8.out.bl.bx.c3
      have d4 := b8.out.bl.l0
      have d5 := b8.out.bl.l1
      have y0 := b8.out.q0
      have y1 := b8.out.q1
      have y2 := b8.out.q2
      have y3 := b8.out.q3
      have kq := KQ.out w7.heap.size a7 c7 _ b8
      go_wp2_with fail
      refine kq.mono ?_
      rintro e w9 ⟨rfl, b9⟩
      clear kq b7 r7 b8 d0 d1 d2 d3 d4 d5 y0 y1 y2 y3
      have ka := KA.out w9 b9
      go_wp2_with fail
      refine ka.mono ?_
      rintro e wz ⟨rfl, bz⟩
      go_wp2_with fail
      go_ret
      exact ⟨rfl, bz.out.bx.below⟩
    · have hbn : (er == 0) = false := by rw [beq_eq_false_iff_ne]; exact her
      clear KQ0
      go_enter Try.func5, Try.ntmps5
      go_wp2_with fail
      refine kp0.mono ?_
      rintro e w2 ⟨rfl, b2⟩
      clear kp0 d0 d1 d2 d3 d4 d5 HB0
      have d0 := b2.out.bx.c0
      have d1 := b2.out.bx.c1
      have d2 := b2.out.bx.c2
      have d3 := b2.out.bx.c3
      have d4 := b2.out.l0
      have d5 := b2.out.l1
      have ku2 := KU2.out w2 b2
      go_wp2_with fail
      refine ku2.mono ?_
      rintro e w7 ⟨a7, c7, rfl, r7, b7⟩
      clear ku2 b2 d0 d1 d2 d3 d4 d5
      have b8 : Hid (B2 w p po pc kg ku w7.heap.size q a7 c7 (w7.alloc (.cells (pcmC q a7 c7) 24))) := B2.new b7.out r7.out
      have d0 := b8.out.bl.bx.c0
      have d1 := b8.out.bl.bx.c1
      have d2 := b8.out.bl.bx.c2
      have d3 := b8.out.bl.bx.c3
      have d4 := b8.out.bl.l0
      have d5 := b8.out.bl.l1
      have y0 := b8.out.q0
      have y1 := b8.out.q1
      have y2 := b8.out.q2
      have y3 := b8.out.q3
      have ka := KA.out _ (show Hid (Bl w p po pc kg ku _) from b8.out.bl)
      go_wp2_with fail
      refine ka.mono ?_
      rintro e wz ⟨rfl, bz⟩
      go_wp2_with fail
      go_ret
      exact ⟨rfl, bz.out.bx.below⟩


set_option maxRecDepth 100000 in
theorem lifted (os : Os) (started : os.Started) (H : Type) (enc : TypeId × Value → H) :
    ReturnsInHanded {} Try.checked os 5 .any (Rows.pcmBackSpec.pre6 enc Try.prog Try.f5 Rows.pcmBackRow.domain false) (Rows.pcmBackSpec.post enc Try.prog Try.f5 false true false false) := by
  refine returnsInHanded_of_change_sized (C := Try.checked) own started (by kernel_rfl) Try.func5
    (ChangeSpec.witness6 (enc := enc) (C := Try.checked) false ⟨#[], #[.agg #[.int .i64 0, .int .i64 0, .int .i64 0, .slice none 0 0], .string ByteArray.empty, .agg #[.bool false, .bool false]], []⟩ 8 (by kernel_rfl) (by kernel_rfl) (by kernel_rfl) (by kernel_rfl)) ?_
  intro W base args ds gs before hval0 hW hcnd0 hsz0 hholds
  have hval : ∀ (j : Nat) t v, Try.f5.params[j]? = some t → args[j]? = some v → Value.okWide Try.prog W .any base t v := hval0
  have hsz : (DataW.weightsEach Try.prog (Try.f5.params.toList ++ Rows.pcmBackSpec.plain.varTypes Try.prog) (ds ++ gs)).all (· ≤ reachBytes) = true := hsz0
  have hW' := hW
  obtain ⟨p, q, hA0, hV, rfl, hfz, hnd⟩ := hW
  have hA : DataW.TrodAll enc Try.prog W 0 (fun _ => true) true Try.f5.params.toList args.toList ds p := hA0
  rw [Try.params5] at hA hval hsz
  obtain ⟨v0, vs0, d0, ds0, p0, q0, hargs, rfl, rfl, h0, r0⟩ := trodAll_cons hA
  obtain ⟨v1, vs1, d1, ds1, p1, q1, rfl, rfl, rfl, h1, r1⟩ := trodAll_cons r0
  obtain ⟨v2, vs2, d2, ds2, p2, q2, rfl, rfl, rfl, h2, r2⟩ := trodAll_cons r1
  obtain ⟨rfl, rfl, rfl⟩ := trodAll_nil r2
  obtain rfl : args = #[v0, v1, v2] := by cases args; simp_all
  obtain ⟨rfl, rfl⟩ := trodVars_none hV
  have hall := List.all_eq_true.1 hsz
  have hw0 : ∀ n ∈ d0.weights Try.prog 24, n ≤ reachBytes := fun n hn => by
    have := hall n (List.mem_append.2 (.inl hn))
    exact of_decide_eq_true this
  have k0 := h0
  have lt0 : ∀ x ∈ p0, x.block < W.heap.size := by obtain ⟨m, hm⟩ := k0; exact DataW.trod_lt m _ _ _ hm
  obtain ⟨x0, o0, c0, rfl, hr0, hf0⟩ := open_pcm0 (hval 0 24 v0 rfl rfl) h0 hw0
  obtain ⟨x1, rfl, rfl, rfl, i1⟩ := open_string Try.underlying9 (hval 1 9 v1 rfl rfl) h1
  have hq1 := sized_string hsz (j := 1) (t := 9) rfl rfl
  have hz1 : x1.size ≤ 140737488351232 := by
    have e : x1.data.toList.length = x1.size := by rw [Array.length_toList]; rfl
    rw [e] at hq1
    simp only [reachBytes] at hq1
    omega
  have k2 := h2
  have lt2 : ∀ x ∈ p2, x.block < W.heap.size := by obtain ⟨m, hm⟩ := k2; exact DataW.trod_lt m _ _ _ hm
  obtain ⟨g2, u2, rfl, rfl, rfl⟩ := open_layout0 (hval 2 34 v2 rfl rfl) h2
  clear hA0 hval0
  refine (walk x0 o0 c0 hf0 x1 hz1 g2 u2 W hr0).mono fun e W' ⟨he, bel⟩ => ?_
  subst he
  exact ⟨_, rfl, _, _, _, [], _, [], hW', trodAll_mk1 (shut_bool Try.underlying4 _), (trodAll_cons_mk (Below.trod laidOut (by kernel_rfl) (of_decide_eq_true (by kernel_rfl)) k0 bel lt0) (trodAll_cons_mk (shut_string Try.underlying9 i1) (trodAll_cons_mk (Below.trod laidOut (by kernel_rfl) (of_decide_eq_true (by kernel_rfl)) k2 bel lt2) trodAll_mk0))), rfl, bel.frame _, fun h => by cases h⟩

theorem over : Rows.pcmBackRow.holds Try.pinned (OpenSpec.ofChange Rows.pcmBackSpec) :=
  OpenClaim.holds_of_wide 5 Try.f5 rfl rfl rfl rfl rfl rfl rfl ⟨rfl, rfl, rfl, rfl, rfl⟩ rfl rfl rfl rfl rfl (by kernel_rfl) Try.func5 (by kernel_rfl)
    (of_decide_eq_true (by kernel_rfl)) (by unfold Func.isWrapper; first | (rw [if_pos (by decide +kernel)]; kernel_rfl) | (rw [if_neg (by decide +kernel)]; exact ⟨rfl, rfl⟩))
    (fun os started H enc _ => lifted os started H enc)

end Go.Proofs.Ytolmijpecomkcaa.pcmBack
namespace Go.Proofs.Ytolmijpecomkcaa
theorem pcmBack_holds : Rows.PcmBackSaid := pcmBack.over
#print axioms pcmBack_holds
end Go.Proofs.Ytolmijpecomkcaa
