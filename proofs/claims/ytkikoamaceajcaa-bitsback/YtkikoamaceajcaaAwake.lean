/- Own text: the walk of the law's own examples ('awake'): they answer true, and of what was there nothing turns. -/
import Derived.Test.YtkikoamaceajcaaRcalls
namespace Go.Proofs.Ytkikoamaceajcaa
open Go.RowKit
set_option linter.unusedSimpArgs false
set_option linter.unusedVariables false

theorem Rd.foot {w w' : World} {q p : Nat} {s : ByteArray} {a : Nat} {ao : Option Addr} (h : Rd w q s a) (hS : Stays (foot p ao) w w') (hp : q ≠ p) (hb : ∀ b, blockOf ao = some b → b ≠ q) : Rd w' q s a :=
  h.stays hS (fun hf => by
    rcases hf with hf | hf
    · exact hp hf
    · exact hb q hf rfl)

theorem WrB.only {w w' : World} {p q : Nat} {ao : Option Addr} {B : List Nat} (h : WrB w p ao B) (hS : Stays (only q) w w') (hp : p ≠ q) (hb : ∀ b, blockOf ao = some b → b ≠ q) : WrB w' p ao B :=
  h.stays hS hp hb

theorem WrB.below {w w' : World} {p : Nat} {ao : Option Addr} {B : List Nat} (h : WrB w p ao B) (hS : Below w.heap.size w w') : WrB w' p ao B :=
  h.stays (Stays.of_below hS (fun _ => False)) (fun h => h) (fun _ _ h => h)

theorem Rd.below {w w' : World} {q : Nat} {s : ByteArray} {a : Nat} (h : Rd w q s a) (hS : Below w.heap.size w w') : Rd w' q s a :=
  h.stays (Stays.of_below hS (fun _ => False)) (fun h => h)

theorem foot_below {N p : Nat} {ao : Option Addr} {w w' : World} (h : Stays (foot p ao) w w') (hN : N ≤ w.heap.size) (hp : N ≤ p) (ha : ∀ b, blockOf ao = some b → N ≤ b) : Below N w w' :=
  h.below hN (fun i hi hf => by
    rcases hf with hf | hf
    · omega
    · have := ha i hf; omega)

theorem only_below {N q : Nat} {w w' : World} (h : Stays (only q) w w') (hN : N ≤ w.heap.size) (hq : N ≤ q) : Below N w w' :=
  h.below hN (fun i hi hf => by have : i = q := hf; omega)

theorem moved_ge {N n : Nat} {ao ao' : Option Addr} (h : Moved n ao ao') (hN : N ≤ n) (ha : ∀ b, blockOf ao = some b → N ≤ b) : ∀ b, blockOf ao' = some b → N ≤ b := fun b hb => by
  rcases h b hb with h1 | h1
  · exact ha b h1
  · omega

theorem WrB.drewN {w : World} {p : Nat} {ao : Option Addr} {B : List Nat} (h : WrB w p ao B) (n : Nat) : WrB (w.drewN n) p ao B := by
  obtain ⟨cap, h⟩ := h
  exact ⟨cap, h.drewN n⟩

set_option maxRecDepth 20000 in
set_option maxHeartbeats 1600000 in
theorem awake_spec (w : World) : Calls Try.prog 14 #[] w fun e w' => e = .returned (.bool true) ∧ Below w.heap.size w w' := by
  go_enter Try.func14, Try.ntmps14
  go_wp2_with fail
  refine (new_spec w).mono ?_
  rintro e w1 ⟨rfl, hW1, hw1⟩
  have hB1 : Below w.heap.size w w1 := by rw [hw1]; exact (Below.refl _ _).alloc (Nat.le_refl _) _
  have hz1 : w1.heap.size = w.heap.size + 1 := by rw [hw1]; simp
  clear hw1
  obtain ⟨p, hp⟩ : ∃ p, p = w.heap.size := ⟨_, rfl⟩
  rw [← hp] at hW1 ⊢
  have HP : Hid _ := hp
  have HZ1 : Hid _ := hz1
  clear hp hz1
  go_wp2_with fail
  refine (of_spec ⟨#[168]⟩ (by decide) w1).mono ?_
  rintro e w2 ⟨rfl, hR2, hB2⟩
  obtain ⟨q, hq⟩ : ∃ q, q = w1.heap.size := ⟨_, rfl⟩
  rw [← hq] at hR2 ⊢
  have hW2 : WrB w2 p none [] := hW1.below hB2
  have HQ : Hid (q = p + 1) := by have := HZ1.out; have := HP.out; show q = p + 1; omega
  clear hq hW1
  have HB1 : Hid _ := hB1
  have HB2 : Hid _ := hB2
  clear hB1 hB2
  go_wp2_with fail
  -- Put(5, 3)
  refine (put_ok p 5 3 (by decide) (by decide) w2 none [] (by intro b hb; cases hb) (by simp) hW2).mono ?_
  rintro e w3 ⟨rfl, ao3, hW3, hS3, hM3⟩
  have hN2 : p + 1 < w2.heap.size := by have := hR2.lt; have := HQ.out; omega
  have hR3 : Rd w3 q ⟨#[168]⟩ 0 := hR2.foot hS3 (by have := HQ.out; omega) (fun b hb => by cases hb)
  have hg3 : ∀ b, blockOf ao3 = some b → p + 2 ≤ b := moved_ge hM3 (by omega) (fun b hb => by cases hb)
  have hB3 : Below p w2 w3 := foot_below hS3 (by omega) (by omega) (fun b hb => by cases hb)
  have hN3 : p + 1 < w3.heap.size := by have := hS3.size; omega
  have HB3 : Hid _ := hB3
  clear hS3 hM3 hB3 hW2 hR2
  go_wp2_with fail
  -- Put(1, 2)
  refine (put_ok p 1 2 (by decide) (by decide) w3 ao3 ([] ++ bitsOf 5 3) (by unfold Bits01; decide) (by decide) hW3).mono ?_
  rintro e w4 ⟨rfl, ao4, hW4, hS4, hM4⟩
  have hR4 : Rd w4 q ⟨#[168]⟩ 0 := hR3.foot hS4 (by have := HQ.out; omega) (fun b hb => by have := hg3 b hb; have := HQ.out; omega)
  have hg4 : ∀ b, blockOf ao4 = some b → p + 2 ≤ b := moved_ge hM4 (by omega) hg3
  have hB4 : Below p w3 w4 := foot_below hS4 (by omega) (by omega) (fun b hb => by have := hg3 b hb; omega)
  have hN4 : p + 1 < w4.heap.size := by have := hS4.size; omega
  have HB4 : Hid _ := hB4
  clear hS4 hM4 hB4 hW3 hR3 hg3
  go_wp2_with fail
  -- Align
  refine (align_spec p w4 ao4 ([] ++ bitsOf 5 3 ++ bitsOf 1 2) (by decide) hW4).mono ?_
  rintro e w5 ⟨rfl, hW5, hS5⟩
  have hR5 : Rd w5 q ⟨#[168]⟩ 0 := hR4.foot hS5 (by have := HQ.out; omega) (fun b hb => by have := hg4 b hb; have := HQ.out; omega)
  have hB5 : Below p w4 w5 := foot_below hS5 (by omega) (by omega) (fun b hb => by have := hg4 b hb; omega)
  have hN5 : p + 1 < w5.heap.size := by have := hS5.size; omega
  have HB5 : Hid _ := hB5
  have hW5' : WrB w5 p ao4 [1, 0, 1, 0, 1, 0, 0, 0] := hW5
  clear hS5 hB5 hW4 hR4 hW5
  go_wp2_with fail
  -- Get(3)
  refine (get_ok q ⟨#[168]⟩ (by decide) 0 3 (by decide) (by decide) w5 hR5).mono ?_
  rintro e w6 ⟨rfl, hR6, hS6⟩
  have hW6 : WrB w6 p ao4 [1, 0, 1, 0, 1, 0, 0, 0] := hW5'.only hS6 (by have := HQ.out; omega) (fun b hb => by have := hg4 b hb; have := HQ.out; omega)
  have hB6 : Below p w5 w6 := only_below hS6 (by omega) (by have := HQ.out; omega)
  have hN6 : p + 1 < w6.heap.size := by have := hS6.size; omega
  have HB6 : Hid _ := hB6
  rw [show bitsAt ⟨#[168]⟩ 0 3 = 5 from by decide]
  clear hS6 hB6 hW5' hR5
  go_wp2_with fail
  -- Of and Unary
  refine (of_spec ⟨#[0]⟩ (by decide) w6).mono ?_
  rintro e w7 ⟨rfl, hR7, hB7⟩
  have hRq : Rd w7 q ⟨#[168]⟩ 3 := hR6.below hB7
  have hW7 : WrB w7 p ao4 [1, 0, 1, 0, 1, 0, 0, 0] := hW6.below hB7
  have HB7 : Hid (Below p w6 w7) := hB7.mono (by omega)
  have hN7 : p + 1 < w7.heap.size := by have := hB7.size; omega
  clear hB7 hR6 hW6
  go_wp2_with fail
  refine (runary_end w6.heap.size ⟨#[0]⟩ (by decide) 0 (by decide) (by decide) (by decide) w7 hR7).mono ?_
  rintro e w8 ⟨rfl, n8, rfl⟩
  have hR8 : Rd (w7.drewN n8) q ⟨#[168]⟩ 3 := hRq.drewN n8
  have hW8 : WrB (w7.drewN n8) p ao4 [1, 0, 1, 0, 1, 0, 0, 0] := hW7.drewN n8
  clear hRq hW7 hR7
  generalize hw8 : w7.drewN n8 = w8 at *
  have HB8 : Hid (Below p w7 w8) := by rw [← hw8]; exact ⟨rfl, rfl, rfl, Nat.le_refl _, fun _ _ => rfl⟩
  clear hw8
  go_wp2_with fail
  -- Bytes
  refine (bytes_spec p w8 ao4 _ (by unfold Bits01; decide) (by decide) hW8).mono ?_
  rintro e w9 ⟨rfl, rfl⟩
  rw [show textOf (pack [1, 0, 1, 0, 1, 0, 0, 0]) = ⟨#[168]⟩ from by decide]
  go_wp2_with fail
  -- Len, At, Left
  refine (len_spec p w9 ao4 _ hW8).mono ?_
  rintro e wa ⟨rfl, rfl⟩
  go_wp2_with fail
  refine (at_spec q ⟨#[168]⟩ 3 wa hR8).mono ?_
  rintro e wb ⟨rfl, rfl⟩
  go_wp2_with fail
  refine (left_spec q ⟨#[168]⟩ (by decide) 3 (by decide) wb hR8).mono ?_
  rintro e wc ⟨rfl, nc, rfl⟩
  go_wp2_with fail
  -- Put(8, 3)
  refine (put_bad p 8 3 (by decide) (by decide) (.inr (.inr ⟨by decide, by decide, by decide⟩)) _).mono ?_
  rintro e wd ⟨rfl, rfl⟩
  go_wp2
  go_ret
  refine ⟨rfl, ?_⟩
  have hp := HP.out
  have h1 := HZ1.out
  have b1 := HB1.out
  have b2 := HB2.out.mono (show p ≤ w1.heap.size by omega)
  rw [← hp] at b1 ⊢
  exact (((((((b1.trans b2).trans HB3.out).trans HB4.out).trans HB5.out).trans HB6.out).trans HB7.out).trans HB8.out).trans ⟨rfl, rfl, rfl, Nat.le_refl _, fun _ _ => rfl⟩
end Go.Proofs.Ytkikoamaceajcaa
