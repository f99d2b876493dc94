/- Own text: the contracts of the writer's calls. -/
import Derived.Test.YtfmpiidnemhijaaDoorPut
namespace Go.Proofs.YtfmpiidnemhijaaDoor
open Go.RowKit
set_option linter.unusedSimpArgs false
set_option linter.unusedVariables false


/-- 'New': a writer of nothing in a new block. -/
theorem new_spec (w : World) : Calls Tryd.prog 45 #[] w fun e w' => e = .returned (.pointer (some ⟨w.heap.size, 0, none⟩)) ∧ WrB w' w.heap.size none [] ∧ w' = w.alloc (.cells #[.slice none 0 0, .int .i64 0] 113) := by
  go_enter Tryd.func45, Tryd.ntmps45
  go_wp2
  go_ret
  refine ⟨rfl, ⟨0, ?_, World.ownsRow_nil _ _ _ _, by simp [blockOf]⟩, rfl⟩
  rw [heap_alloc_new]
  rfl

/-- The text that bytes make. -/
def textOf (bs : List Nat) : ByteArray := ⟨(bs.map fun b => UInt8.ofNat b).toArray⟩

theorem textOf_eq (bs : List Nat) : textOf bs = strOfNums (bs.map fun (b : Nat) => (b : Int)) := by
  unfold textOf strOfNums
  rw [List.map_map]
  congr 2

theorem conv_row {w : World} {p : Nat} {ao : Option Addr} {cap : Nat} {bs : List Nat} {cnt : Nat} (h : Wr w p ao cap bs cnt) :
    (convert 63 9 (.slice ao bs.length cap)).run Tryd.prog w = .ok (.string (textOf bs)) w := by
  by_cases h0 : 0 < bs.length
  · obtain ⟨g, rfl, _⟩ := h.row h0
    rw [textOf_eq]
    refine run_convert_bytes_arg w 63 5 Tryd.underlying63 Tryd.underlying5 g 0 bs.length cap _ (by simp) (fun i hi => ?_) 9 Tryd.underlying9
    rw [Nat.zero_add, h.cg i hi]
    simp [List.getD, hi]
  · have hb : bs = [] := List.eq_nil_of_length_eq_zero (by omega)
    subst hb
    cases ao with
    | none => exact run_convert_bytes_nil w 63 5 Tryd.underlying63 Tryd.underlying5 _ _ 9 Tryd.underlying9
    | some a =>
      obtain ⟨ao1, cap1, hv, _, _, _, hs⟩ := owns_shape h.own
      simp only [Value.slice.injEq, true_and] at hv
      obtain ⟨rfl, rfl⟩ := hv
      obtain ⟨g, rfl⟩ : ∃ g, a = ⟨g, 0, none⟩ := ⟨_, (hs a rfl).1⟩
      exact run_convert_bytes_arg w 63 5 Tryd.underlying63 Tryd.underlying5 g 0 0 cap [] rfl (fun i hi => by omega) 9 Tryd.underlying9

theorem bytes_none (w : World) : Calls Tryd.prog 47 #[.pointer none] w fun e w' => e = .returned (.string ⟨#[]⟩) ∧ w' = w := by
  go_enter Tryd.func47, Tryd.ntmps47
  go_wp2
  go_ret
  exact ⟨rfl, rfl⟩

theorem bytes_spec (p : Nat) (w : World) (ao : Option Addr) (B : List Nat) (h01 : Bits01 B) (hB : B.length ≤ 1000000000000) (hw : WrB w p ao B) : Calls Tryd.prog 47 #[.pointer (some ⟨p, 0, none⟩)] w fun e w' => e = .returned (.string (textOf (pack B))) ∧ w' = w := by
  obtain ⟨cap, hW⟩ := hw
  have hcv := conv_row hW
  have c0 := hW.c0
  clear hW hB
  go_enter Tryd.func47, Tryd.ntmps47
  go_wp2
  go_ret
  exact ⟨rfl, rfl⟩

theorem put_none (n : Int) (k : Int) (w : World) : Calls Tryd.prog 46 #[.pointer none, .int .u64 n, .int .i64 k] w fun e w' => e = .returned (.int .i64 1) ∧ w' = w := by
  go_enter Tryd.func46, Tryd.ntmps46
  go_wp2
  go_ret
  exact ⟨rfl, rfl⟩

theorem put_ok (p n k : Nat) (hk : k ≤ 64) (hn : n < 2 ^ k) (w : World) (ao : Option Addr) (B : List Nat) (h01 : Bits01 B) (hB : B.length ≤ 1000000000000) (hw : WrB w p ao B) :
    Calls Tryd.prog 46 #[.pointer (some ⟨p, 0, none⟩), .int .u64 (n : Int), .int .i64 (k : Int)] w fun e w' =>
      e = .returned (.int .i64 0) ∧ ∃ ao', WrB w' p ao' (B ++ bitsOf n k) ∧ Stays (foot p ao) w w' ∧ Moved w.heap.size ao ao' := by
  have h64 : n < 18446744073709551616 := Nat.lt_of_lt_of_le hn (pow_le_of k 64 hk)
  have hz : (n : Int) / 2 ^ k = 0 := by
    have : n / 2 ^ k = 0 := Nat.div_eq_of_lt hn
    have e : (n : Int) / 2 ^ k = ((n / 2 ^ k : Nat) : Int) := by simp
    rw [e, this]; rfl
  go_enter Tryd.func46, Tryd.ntmps46
  go_wp2_with (go_at_call 60; refine (put_spec p n k h64 hk w ao B h01 hB hw).mono ?_; rintro e w' ⟨rfl, ao', h1, h2, h3⟩)
  go_ret
  exact ⟨rfl, ao', h1, h2, h3⟩

theorem put_bad (p : Nat) (n k : Int) (hn : 0 ≤ n) (hn2 : n < 18446744073709551616) (hbad : k < 0 ∨ 64 < k ∨ (0 ≤ k ∧ k ≤ 64 ∧ 2 ^ k.toNat ≤ n)) (w : World) :
    Calls Tryd.prog 46 #[.pointer (some ⟨p, 0, none⟩), .int .u64 n, .int .i64 k] w fun e w' => e = .returned (.int .i64 11) ∧ w' = w := by
  rcases hbad with h | h | ⟨h1, h2, h3⟩
  · go_enter Tryd.func46, Tryd.ntmps46
    go_wp2
    go_ret
    exact ⟨rfl, rfl⟩
  · go_enter Tryd.func46, Tryd.ntmps46
    go_wp2
    go_ret
    exact ⟨rfl, rfl⟩
  · have hp : 0 < (2 : Int) ^ k.toNat := Int.pow_pos (by decide)
    have hq : 1 ≤ n / 2 ^ k.toNat := Int.le_ediv_of_mul_le hp (by omega)
    have hz : (n / 2 ^ k.toNat != 0) = true := by simp; omega
    clear hq hp
    go_enter Tryd.func46, Tryd.ntmps46
    go_wp2
    go_ret
    exact ⟨rfl, rfl⟩

end Go.Proofs.YtfmpiidnemhijaaDoor
