/- Own text: the walks of the program's Len, mayBe, half, isSample, isAlike. -/
import Derived.Test.YtolmijpecomkcaaG1
import Derived.Shelf.Abstract
namespace Go.Proofs.Ytolmijpecomkcaa
open Go.RowKit
set_option linter.unusedSimpArgs false
set_option linter.unusedVariables false
set_option maxRecDepth 20000 in
set_option maxHeartbeats 1600000 in
theorem len_spec (p : Pcm) (ao : Option Addr) (cap : Nat) (w : World) (hr : RowsAt w ao p.pl) :
    Calls Try.prog 12 #[pcmV p ao cap] w fun e w' => e = .returned (.int .i64 (lenP p : Int)) ∧ Below w.heap.size w w' := by
  have hl := hr.len
  by_cases h0 : p.pl.length = 0
  · have e0 : lenP p = 0 := by
      unfold lenP
      rw [List.getD_eq_getElem?_getD, List.getElem?_eq_none (by omega)]
      rfl
    rw [e0]
    go_enter Try.func12, Try.ntmps12
    go_wp2
    go_ret
    exact ⟨rfl, (Below.refl _ _).alloc (Nat.le_refl _) _⟩
  · obtain ⟨b, off, rfl, hc⟩ := hr.lies (by omega)
    obtain ⟨a, c, h1, _, _, h2⟩ := hc 0 (by omega)
    have hb := lt_cell h1
    simp only at hb
    have hl2 := h2.len
    have e0 : (p.pl.getD 0 []).length = lenP p := rfl
    rw [e0, Nat.add_zero] at h1
    rw [e0] at hl2
    generalize lenP p = n at *
    clear hc h2 e0
    go_enter Try.func12, Try.ntmps12
    go_wp2
    go_ret
    exact ⟨rfl, (Below.refl _ _).alloc (Nat.le_refl _) _⟩

def mayB (rate ch wd : Int) : Bool := decide (1 ≤ rate ∧ rate ≤ 655350 ∧ 1 ≤ ch ∧ ch ≤ 8 ∧ 4 ≤ wd ∧ wd ≤ 32)

set_option maxRecDepth 20000 in
set_option maxHeartbeats 1600000 in
theorem mayBe_spec (rate ch wd : Int) (w : World) :
    Calls Try.prog 24 #[.int .i64 rate, .int .i64 ch, .int .i64 wd] w fun e w' => e = .returned (.bool (mayB rate ch wd)) ∧ w' = w := by
  by_cases g0 : rate < 1
  · have hd : mayB rate ch wd = false := decide_eq_false (by omega)
    rw [hd]
    go_enter Try.func24, Try.ntmps24
    go_wp2
    go_ret
    exact ⟨rfl, rfl⟩
  · skip
    by_cases g1 : 655350 < rate
    · have hd : mayB rate ch wd = false := decide_eq_false (by omega)
      rw [hd]
      go_enter Try.func24, Try.ntmps24
      go_wp2
      go_ret
      exact ⟨rfl, rfl⟩
    · skip
      by_cases g2 : ch < 1
      · have hd : mayB rate ch wd = false := decide_eq_false (by omega)
        rw [hd]
        go_enter Try.func24, Try.ntmps24
        go_wp2
        go_ret
        exact ⟨rfl, rfl⟩
      · skip
        by_cases g3 : 8 < ch
        · have hd : mayB rate ch wd = false := decide_eq_false (by omega)
          rw [hd]
          go_enter Try.func24, Try.ntmps24
          go_wp2
          go_ret
          exact ⟨rfl, rfl⟩
        · skip
          by_cases g4 : wd < 4
          · have hd : mayB rate ch wd = false := decide_eq_false (by omega)
            rw [hd]
            go_enter Try.func24, Try.ntmps24
            go_wp2
            go_ret
            exact ⟨rfl, rfl⟩
          · skip
            by_cases g5 : 32 < wd
            · have hd : mayB rate ch wd = false := decide_eq_false (by omega)
              have hb : decide (wd ≤ 32) = false := decide_eq_false (by omega)
              rw [hd]
              go_enter Try.func24, Try.ntmps24
              go_wp2
              go_ret
              exact ⟨rfl, rfl⟩
            · skip
              have hd : mayB rate ch wd = true := decide_eq_true (by omega)
              have hb : decide (wd ≤ 32) = true := decide_eq_true (by omega)
              rw [hd]
              go_enter Try.func24, Try.ntmps24
              go_wp2
              go_ret
              exact ⟨rfl, rfl⟩

theorem pow33 (k : Nat) (h : k ≤ 32) : (2 : Int) ^ k ≤ 4294967296 ∧ (1 : Int) ≤ 2 ^ k := by
  have h1 : (2 : Nat) ^ k ≤ 2 ^ 32 := Nat.pow_le_pow_right (by decide) h
  have h2 : 0 < (2 : Nat) ^ k := Nat.pow_pos (by decide)
  have e : (2 : Int) ^ k = ((2 ^ k : Nat) : Int) := by simp
  have e2 : (2 : Nat) ^ 32 = 4294967296 := by decide
  rw [e]
  omega

set_option maxRecDepth 20000 in
set_option maxHeartbeats 1600000 in
theorem half_spec (b : Int) (h1 : 1 ≤ b) (h33 : b ≤ 33) (w : World) :
    Calls Try.prog 52 #[.int .i64 b] w fun e w' => e = .returned (.int .i64 (2 ^ (b - 1).toNat)) ∧ w' = w := by
  obtain ⟨hp1, hp2⟩ := pow33 (b - 1).toNat (by omega)
  have hk : ((b - 1).toNat : Int) = b - 1 := by omega
  generalize hkk : (b - 1).toNat = k at *
  generalize hH : (2 : Int) ^ k = h at *
  go_enter Try.func52, Try.ntmps52
  go_wp2
  go_ret
  exact ⟨rfl, rfl⟩

set_option maxRecDepth 20000 in
set_option maxHeartbeats 1600000 in
theorem isSample_spec (n wd : Int) (h4 : 4 ≤ wd) (h32 : wd ≤ 32) (w : World) :
    Calls Try.prog 28 #[.int .i64 n, .int .i64 wd] w fun e w' => e = .returned (.bool (sampB n wd)) ∧ w' = w := by
  obtain ⟨hp1, hp2⟩ := pow31 (wd - 1).toNat (by omega)
  have kh := half_spec wd (by omega) (by omega)
  unfold sampB
  generalize hH : (2 : Int) ^ (wd - 1).toNat = h at *
  by_cases h1 : -h ≤ n
  · by_cases h2 : n < h
    · have hd : decide (-h ≤ n ∧ n < h) = true := decide_eq_true ⟨h1, h2⟩
      have hb : decide (n < h) = true := decide_eq_true h2
      rw [hd]
      go_enter Try.func28, Try.ntmps28
      go_wp2_with (go_at_call 52; refine (kh _).mono ?_; rintro e w4 ⟨rfl, rfl⟩)
      go_ret
      exact ⟨rfl, rfl⟩
    · have hd : decide (-h ≤ n ∧ n < h) = false := decide_eq_false (fun c => h2 c.2)
      have hb : decide (n < h) = false := decide_eq_false h2
      rw [hd]
      go_enter Try.func28, Try.ntmps28
      go_wp2_with (go_at_call 52; refine (kh _).mono ?_; rintro e w4 ⟨rfl, rfl⟩)
      go_ret
      exact ⟨rfl, rfl⟩
  · have hd : decide (-h ≤ n ∧ n < h) = false := decide_eq_false (fun c => h1 c.1)
    rw [hd]
    go_enter Try.func28, Try.ntmps28
    go_wp2_with (go_at_call 52; refine (kh _).mono ?_; rintro e w4 ⟨rfl, rfl⟩)
    go_ret
    exact ⟨rfl, rfl⟩

def alikeB (a b : Pcm) : Bool := decide (a.rate = b.rate ∧ a.ch = b.ch ∧ a.wd = b.wd)

set_option maxRecDepth 20000 in
set_option maxHeartbeats 1600000 in
theorem isAlike_spec (a b : Pcm) (ao bo : Option Addr) (ac bc : Nat) (w : World) :
    Calls Try.prog 44 #[pcmV a ao ac, pcmV b bo bc] w fun e w' => e = .returned (.bool (alikeB a b)) ∧ Below w.heap.size w w' := by
  by_cases g0 : ¬ a.rate = b.rate
  · have hd : alikeB a b = false := decide_eq_false (by omega)
    have hb : (a.rate == b.rate) = false := by rw [beq_eq_false_iff_ne]; exact g0
    rw [hd]
    go_enter Try.func44, Try.ntmps44
    go_wp2
    go_ret
    exact ⟨rfl, ((Below.refl _ _).alloc (Nat.le_refl _) _).alloc (by simp) _⟩
  · skip
    by_cases g1 : ¬ a.ch = b.ch
    · have hd : alikeB a b = false := decide_eq_false (by omega)
      have hb : (a.ch == b.ch) = false := by rw [beq_eq_false_iff_ne]; exact g1
      rw [hd]
      go_enter Try.func44, Try.ntmps44
      go_wp2
      go_ret
      exact ⟨rfl, ((Below.refl _ _).alloc (Nat.le_refl _) _).alloc (by simp) _⟩
    · skip
      by_cases g2 : ¬ a.wd = b.wd
      · have hd : alikeB a b = false := decide_eq_false (by omega)
        have hb : (a.wd == b.wd) = false := by rw [beq_eq_false_iff_ne]; exact g2
        rw [hd]
        go_enter Try.func44, Try.ntmps44
        go_wp2
        go_ret
        exact ⟨rfl, ((Below.refl _ _).alloc (Nat.le_refl _) _).alloc (by simp) _⟩
      · skip
        have hd : alikeB a b = true := decide_eq_true (by omega)
        have e0 : a.rate = b.rate := by omega
        have e1 : a.ch = b.ch := by omega
        have e2 : a.wd = b.wd := by omega
        have hb : (a.wd == b.wd) = true := by rw [e2]; exact beq_self_eq_true _
        rw [hd]
        go_enter Try.func44, Try.ntmps44
        go_wp2
        go_ret
        exact ⟨rfl, ((Below.refl _ _).alloc (Nat.le_refl _) _).alloc (by simp) _⟩

end Go.Proofs.Ytolmijpecomkcaa
