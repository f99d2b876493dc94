/- Own text: the walk of the law's own examples ('awake'): they answer true, and of what was there nothing turns. -/
import Derived.Test.YtfmpiidnemhijaaDoorRcalls
namespace Go.Proofs.YtfmpiidnemhijaaDoor
open Go.RowKit
set_option linter.unusedSimpArgs false
set_option linter.unusedVariables false


theorem Rd.foot {w w' : World} {q p : Nat} {s : ByteArray} {a : Nat} {ao : Option Addr} (h : Rd w q s a) (hS : Stays (foot p ao) w w') (hp : q ≠ p) (hb : ∀ b, blockOf ao = some b → b ≠ q) : Rd w' q s a :=
  h.stays hS (fun hf => by
    rcases hf with hf | hf
    · exact hp hf
    · exact hb q hf rfl)

theorem WrB.only {w w' : World} {p q : Nat} {ao : Option Addr} {B : List Nat} (h : WrB w p ao B) (hS : Stays (only q) w w') (hp : p ≠ q) (hb : ∀ b, blockOf ao = some b → b ≠ q) : WrB w' p ao B :=
  h.stays hS hp hb

theorem WrB.below {w w' : World} {p : Nat} {ao : Option Addr} {B : List Nat} (h : WrB w p ao B) (hS : Below w.heap.size w w') : WrB w' p ao B :=
  h.stays (Stays.of_below hS (fun _ => False)) (fun h => h) (fun _ _ h => h)

theorem Rd.below {w w' : World} {q : Nat} {s : ByteArray} {a : Nat} (h : Rd w q s a) (hS : Below w.heap.size w w') : Rd w' q s a :=
  h.stays (Stays.of_below hS (fun _ => False)) (fun h => h)

theorem foot_below {N p : Nat} {ao : Option Addr} {w w' : World} (h : Stays (foot p ao) w w') (hN : N ≤ w.heap.size) (hp : N ≤ p) (ha : ∀ b, blockOf ao = some b → N ≤ b) : Below N w w' :=
  h.below hN (fun i hi hf => by
    rcases hf with hf | hf
    · omega
    · have := ha i hf; omega)

theorem only_below {N q : Nat} {w w' : World} (h : Stays (only q) w w') (hN : N ≤ w.heap.size) (hq : N ≤ q) : Below N w w' :=
  h.below hN (fun i hi hf => by have : i = q := hf; omega)

theorem moved_ge {N n : Nat} {ao ao' : Option Addr} (h : Moved n ao ao') (hN : N ≤ n) (ha : ∀ b, blockOf ao = some b → N ≤ b) : ∀ b, blockOf ao' = some b → N ≤ b := fun b hb => by
  rcases h b hb with h1 | h1
  · exact ha b h1
  · omega

theorem WrB.drewN {w : World} {p : Nat} {ao : Option Addr} {B : List Nat} (h : WrB w p ao B) (n : Nat) : WrB (w.drewN n) p ao B := by
  obtain ⟨cap, h⟩ := h
  exact ⟨cap, h.drewN n⟩

theorem ret_bool {a b : Bool} (h : a = b) : Ending.returned (.bool a) = .returned (.bool b) := by rw [h]

theorem below_box (w : World) (o : Obj) (n : Nat) : Below w.heap.size w ((w.alloc o).drewN n) := by
  have h := (Below.refl w.heap.size w).alloc (Nat.le_refl _) o
  exact ⟨h.os, h.tape, h.output, h.size, h.block⟩

end Go.Proofs.YtfmpiidnemhijaaDoor
