/- Own text: the walk of the law's 'light': which deeds are passed over. -/
import Derived.Test.YtkikoamaceajcaaAwake
namespace Go.Proofs.Ytkikoamaceajcaa
open Go.RowKit
set_option linter.unusedSimpArgs false
set_option linter.unusedVariables false

/-- Is a deed one that writes no very long row? -/
def lightB (K W N : Int) : Bool :=
  if K = 2 then decide (N < 4000 ∨ 16777216 < N)
  else if K = 3 then decide (W < 0 ∨ 30 < W ∨ foldN N / 2 ^ W.toNat < 4000 ∨ 16777216 < foldN N / 2 ^ W.toNat)
  else true

theorem ret_bool {a b : Bool} (h : a = b) : Ending.returned (.bool a) = .returned (.bool b) := by rw [h]

theorem below_box (w : World) (o : Obj) (n : Nat) : Below w.heap.size w ((w.alloc o).drewN n) := by
  have h := (Below.refl w.heap.size w).alloc (Nat.le_refl _) o
  exact ⟨h.os, h.tape, h.output, h.size, h.block⟩

set_option maxRecDepth 20000 in
set_option maxHeartbeats 3200000 in
theorem light_spec (K W N U : Int) (h1 : -9223372036854775808 ≤ N) (h2 : N ≤ 9223372036854775807) (w : World) :
    Calls Try.prog 9 #[.agg #[.int .i64 K, .int .i64 W, .int .i64 N, .int .u64 U]] w fun e w' => e = .returned (.bool (lightB K W N)) ∧ Below w.heap.size w w' := by
  by_cases k2 : K = 2
  · subst k2
    by_cases a : N < 4000
    · go_enter Try.func9, Try.ntmps9
      go_wp2
      go_quiet (fail)
      go_wp2
      go_ret
      exact ⟨ret_bool (by simp [lightB, a]), below_box _ _ _⟩
    · have a' : decide (N < 4000) = false := by simpa using a
      by_cases b : 16777216 < N
      · go_enter Try.func9, Try.ntmps9
        go_wp2
        go_quiet (fail)
        go_wp2
        go_ret
        exact ⟨ret_bool (by simp [lightB, b]), below_box _ _ _⟩
      · have b' : decide (16777216 < N) = false := by simpa using b
        go_enter Try.func9, Try.ntmps9
        go_wp2
        go_quiet (fail)
        go_wp2
        go_ret
        exact ⟨ret_bool (by simp [lightB]; omega), below_box _ _ _⟩
  · have k2' : (K != 2) = true := by simpa using k2
    have k2'' : (K == 2) = false := by simpa using k2
    by_cases k3 : K = 3
    · subst k3
      by_cases a : W < 0
      · go_enter Try.func9, Try.ntmps9
        go_wp2
        go_quiet (fail)
        go_wp2
        go_ret
        exact ⟨ret_bool (by simp [lightB, a]), below_box _ _ _⟩
      · have a' : decide (W < 0) = false := by simpa using a
        by_cases b : 30 < W
        · go_enter Try.func9, Try.ntmps9
          go_wp2
          go_quiet (fail)
          go_wp2
          go_ret
          exact ⟨ret_bool (by simp [lightB, b]), below_box _ _ _⟩
        · have b' : decide (30 < W) = false := by simpa using b
          obtain ⟨q, hq⟩ : ∃ q, q = foldN N / 2 ^ W.toNat := ⟨_, rfl⟩
          have hqi : (foldN N : Int) / 2 ^ W.toNat = (q : Int) := by rw [div_cast, hq]
          have HQ : Hid _ := hq
          have hf := foldN_lt N h1 h2
          clear hq
          by_cases c : (q : Int) < 4000
          · go_enter Try.func9, Try.ntmps9
            go_wp2
            go_quiet ((go_at_call 34; exact Calls.quiet_of_same (fold_spec N h1 h2 _)))
            go_wp2
            go_ret
            exact ⟨ret_bool (by have := HQ.out; simp only [lightB, ← this]; simp; omega), below_box _ _ _⟩
          · have c' : decide ((q : Int) < 4000) = false := by simpa using c
            by_cases d : 16777216 < (q : Int)
            · go_enter Try.func9, Try.ntmps9
              go_wp2
              go_quiet ((go_at_call 34; exact Calls.quiet_of_same (fold_spec N h1 h2 _)))
              go_wp2
              go_ret
              exact ⟨ret_bool (by have := HQ.out; simp only [lightB, ← this]; simp; omega), below_box _ _ _⟩
            · have d' : decide (16777216 < (q : Int)) = false := by simpa using d
              go_enter Try.func9, Try.ntmps9
              go_wp2
              go_quiet ((go_at_call 34; exact Calls.quiet_of_same (fold_spec N h1 h2 _)))
              go_wp2
              go_ret
              exact ⟨ret_bool (by have := HQ.out; simp only [lightB, ← this]; simp; omega), below_box _ _ _⟩
    · have k3' : (K != 3) = true := by simpa using k3
      have k3'' : (K == 3) = false := by simpa using k3
      go_enter Try.func9, Try.ntmps9
      go_wp2
      go_quiet (fail)
      go_wp2
      go_ret
      exact ⟨ret_bool (by simp [lightB, k2, k3]), below_box _ _ _⟩
end Go.Proofs.Ytkikoamaceajcaa
