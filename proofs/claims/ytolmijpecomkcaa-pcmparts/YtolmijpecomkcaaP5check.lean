/- Own text: the walks of the document's Len, Sample. -/
import Derived.Test.YtolmijpecomkcaaRows
import Derived.Test.YtolmijpecomkcaaP5data
import Derived.Deep.Draws
import Derived.Laws.Bits64
import Derived.Laws.BitsAllLaws
import Derived.WalkLawsBesides
import Derived.RegionTactic
import Derived.Deep.QuietTactic
import Derived.BigQuiet
import Derived.Outline
import Derived.Deep.RegionHeld
namespace Go.Proofs.Ytolmijpecomkcaa
open Go.RowKit
set_option linter.unusedSimpArgs false
set_option linter.unusedVariables false

set_option maxRecDepth 20000 in
set_option maxHeartbeats 1600000 in
theorem rlen_spec (p : Pcm) (ao : Option Addr) (cap : Nat) (w : World) (hr : RowsAt w ao p.pl) :
    Calls Try.prog 13 #[pcmV p ao cap] w fun e w' => e = .returned (.int .i64 (lenP p : Int)) ∧ Below w.heap.size w w' := by
  have hl := hr.len
  by_cases h0 : p.pl.length = 0
  · have e0 : lenP p = 0 := by
      unfold lenP
      rw [List.getD_eq_getElem?_getD, List.getElem?_eq_none (by omega)]
      rfl
    rw [e0]
    go_enter Try.func13, Try.ntmps13
    go_wp2
    go_ret
    exact ⟨rfl, (Below.refl _ _).alloc (Nat.le_refl _) _⟩
  · obtain ⟨b, off, rfl, hc⟩ := hr.lies (by omega)
    obtain ⟨a, c, h1, _, _, h2⟩ := hc 0 (by omega)
    have hb := lt_cell h1
    simp only at hb
    have hl2 := h2.len
    have e0 : (p.pl.getD 0 []).length = lenP p := rfl
    rw [e0, Nat.add_zero] at h1
    rw [e0] at hl2
    generalize lenP p = n at *
    clear hc h2 e0
    go_enter Try.func13, Try.ntmps13
    go_wp2
    go_ret
    exact ⟨rfl, (Below.refl _ _).alloc (Nat.le_refl _) _⟩

theorem pow31 (k : Nat) (h : k ≤ 31) : (2 : Int) ^ k ≤ 2147483648 ∧ (1 : Int) ≤ 2 ^ k := by
  have h1 : (2 : Nat) ^ k ≤ 2 ^ 31 := Nat.pow_le_pow_right (by decide) h
  have h2 : 0 < (2 : Nat) ^ k := Nat.pow_pos (by decide)
  have e : (2 : Int) ^ k = ((2 ^ k : Nat) : Int) := by simp
  have e2 : (2 : Nat) ^ 31 = 2147483648 := by decide
  rw [e]
  omega

set_option maxRecDepth 20000 in
set_option maxHeartbeats 1600000 in
theorem rsample_spec (n wd : Int) (h4 : 4 ≤ wd) (h32 : wd ≤ 32) (w : World) :
    Calls Try.prog 29 #[.int .i64 n, .int .i64 wd] w fun e w' => e = .returned (.bool (sampB n wd)) ∧ w' = w := by
  obtain ⟨hp1, hp2⟩ := pow31 (wd - 1).toNat (by omega)
  unfold sampB
  have hk : ((wd - 1).toNat : Int) = wd - 1 := by omega
  generalize hkk : (wd - 1).toNat = k at *
  have hkk' : (wd - 1).toNat = k := hkk
  generalize hH : (2 : Int) ^ k = h at *
  by_cases h1 : -h ≤ n
  · by_cases h2 : n < h
    · have hd : decide (-h ≤ n ∧ n < h) = true := decide_eq_true ⟨h1, h2⟩
      rw [hd]
      go_enter Try.func29, Try.ntmps29
      go_wp2
      go_ret
      exact ⟨rfl, rfl⟩
    · have hd : decide (-h ≤ n ∧ n < h) = false := decide_eq_false (fun c => h2 c.2)
      rw [hd]
      go_enter Try.func29, Try.ntmps29
      go_wp2
      go_ret
      exact ⟨rfl, rfl⟩
  · have hd : decide (-h ≤ n ∧ n < h) = false := decide_eq_false (fun c => h1 c.1)
    rw [hd]
    go_enter Try.func29, Try.ntmps29
    go_wp2
    go_ret
    exact ⟨rfl, rfl⟩

/-- The samples, boxed, and all that was there. -/
structure Bx (w0 : World) (p : Pcm) (ao : Option Addr) (cap : Nat) (w : World) : Prop where
  box : w.heap[w0.heap.size]? = some (.cells (pcmC p ao cap) 24 (0, 0))
  below : Below w0.heap.size w0 w
theorem Bx.next {w0 w w' : World} {p : Pcm} {ao : Option Addr} {cap : Nat} (h : Bx w0 p ao cap w) (hB : Below w.heap.size w w') : Bx w0 p ao cap w' :=
  ⟨by rw [hB.block _ (lt_of_block h.box)]; exact h.box, h.below.trans (hB.mono h.below.size)⟩
theorem Bx.drewN {w0 w : World} {p : Pcm} {ao : Option Addr} {cap : Nat} (h : Bx w0 p ao cap w) (n : Nat) : Bx w0 p ao cap (w.drewN n) :=
  ⟨h.box, ⟨h.below.os, h.below.tape, h.below.output, h.below.size, h.below.block⟩⟩
theorem Bx.c0 {w0 w : World} {p : Pcm} {ao : Option Addr} {cap : Nat} (h : Bx w0 p ao cap w) : w.cell? ⟨w0.heap.size, 0, none⟩ = some (.int .i64 p.rate) := by rw [cell_of_row _ _ _ _ _ _ h.box]; rfl
theorem Bx.c1 {w0 w : World} {p : Pcm} {ao : Option Addr} {cap : Nat} (h : Bx w0 p ao cap w) : w.cell? ⟨w0.heap.size, 1, none⟩ = some (.int .i64 p.ch) := by rw [cell_of_row _ _ _ _ _ _ h.box]; rfl
theorem Bx.c2 {w0 w : World} {p : Pcm} {ao : Option Addr} {cap : Nat} (h : Bx w0 p ao cap w) : w.cell? ⟨w0.heap.size, 2, none⟩ = some (.int .i64 p.wd) := by rw [cell_of_row _ _ _ _ _ _ h.box]; rfl
theorem Bx.c3 {w0 w : World} {p : Pcm} {ao : Option Addr} {cap : Nat} (h : Bx w0 p ao cap w) : w.cell? ⟨w0.heap.size, 3, none⟩ = some (.slice ao p.pl.length cap) := by rw [cell_of_row _ _ _ _ _ _ h.box]; rfl
theorem Bx.new (w : World) (p : Pcm) (ao : Option Addr) (cap : Nat) : Bx w p ao cap (w.alloc (.cells (pcmC p ao cap) 24)) := ⟨heap_alloc_new _ _, (Below.refl _ _).alloc (Nat.le_refl _) _⟩

set_option maxRecDepth 20000 in
set_option maxHeartbeats 3200000 in
theorem rcheck_no (p : Pcm) (ao : Option Addr) (cap : Nat) (w : World) (hr : RowsAt w ao p.pl) (hh : headB p = false) :
    Calls Try.prog 9 #[pcmV p ao cap] w fun e w' => e = .returned (.int .i64 50) ∧ Below w.heap.size w w' := by
  have hl := hr.len
  clear hr
  have hn := of_decide_eq_false hh
  clear hh
  by_cases g0 : p.rate < 1
  · clear hn
    go_enter Try.func9, Try.ntmps9
    go_wp2
    go_ret
    exact ⟨rfl, (Below.refl _ _).alloc (Nat.le_refl _) _⟩
  · skip
    by_cases g1 : 655350 < p.rate
    · clear hn
      go_enter Try.func9, Try.ntmps9
      go_wp2
      go_ret
      exact ⟨rfl, (Below.refl _ _).alloc (Nat.le_refl _) _⟩
    · skip
      by_cases g2 : p.ch < 1
      · clear hn
        go_enter Try.func9, Try.ntmps9
        go_wp2
        go_ret
        exact ⟨rfl, (Below.refl _ _).alloc (Nat.le_refl _) _⟩
      · skip
        by_cases g3 : 8 < p.ch
        · clear hn
          go_enter Try.func9, Try.ntmps9
          go_wp2
          go_ret
          exact ⟨rfl, (Below.refl _ _).alloc (Nat.le_refl _) _⟩
        · skip
          by_cases g4 : p.wd < 4
          · clear hn
            go_enter Try.func9, Try.ntmps9
            go_wp2
            go_ret
            exact ⟨rfl, (Below.refl _ _).alloc (Nat.le_refl _) _⟩
          · skip
            by_cases g5 : 32 < p.wd
            · clear hn
              go_enter Try.func9, Try.ntmps9
              go_wp2
              go_ret
              exact ⟨rfl, (Below.refl _ _).alloc (Nat.le_refl _) _⟩
            · skip
              by_cases g6 : ¬ (p.pl.length : Int) = p.ch
              · clear hn
                go_enter Try.func9, Try.ntmps9
                go_wp2
                go_ret
                exact ⟨rfl, (Below.refl _ _).alloc (Nat.le_refl _) _⟩
              · skip
                exact absurd ⟨by omega, by omega, by omega, by omega, by omega, by omega, by omega⟩ hn

end Go.Proofs.Ytolmijpecomkcaa
