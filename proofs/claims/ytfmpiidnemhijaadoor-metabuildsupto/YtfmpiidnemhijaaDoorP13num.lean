/- Own text: STREAMINFO's numbers one by one. -/
import Derived.Test.YtfmpiidnemhijaaDoorQ13info
import Derived.Test.YtfmpiidnemhijaaDoorRefwrite
namespace Go.Proofs.YtfmpiidnemhijaaDoor
open Go.RowKit
set_option linter.unusedSimpArgs false
set_option linter.unusedVariables false

theorem results_two {fn : Func} {p t : Tmp} {ty : TypeId} (h : fn.results = #[.cell p ty, .tmp t]) (tmps : Array Value) (P : Program) (w : World) :
    (results fn tmps).run P w = ((asAddr (tmps.getD p undef)).run P w).andThen fun a w₁ => ((loadVar ty a).run P w₁).andThen fun v w₂ => .ok (.tuple #[v, tmps.getD t undef]) w₂ := by
  simp only [results, h]
  simp [Sem.run_bind, Result.andThen]
abbrev I64 (x : Int) : Prop := -9223372036854775808 ≤ x ∧ x ≤ 9223372036854775807
/-- All numbers are an int's. -/
structure IFit (i : Sti) : Prop where
  mn : I64 i.mn
  mx : I64 i.mx
  mf : I64 i.mf
  xf : I64 i.xf
  rt : I64 i.rt
  ch : I64 i.ch
  wd : I64 i.wd
  sm : I64 i.sm
  dg : i.dg.size ≤ 140737488351232
def fldI (i : Sti) (k : Nat) : Int := match k with
  | 0 => i.mn
  | 1 => i.mx
  | 2 => i.mf
  | 3 => i.xf
  | 4 => i.rt
  | 5 => wrap64 (i.ch - 1)
  | 6 => wrap64 (i.wd - 1)
  | _ => i.sm
def widK (k : Nat) : Nat := match k with
  | 0 => 16
  | 1 => 16
  | 2 => 24
  | 3 => 24
  | 4 => 20
  | 5 => 3
  | 6 => 5
  | _ => 36
theorem widK_le (k : Nat) : 3 ≤ widK k ∧ widK k ≤ 36 := by
  unfold widK
  split <;> decide
def layK (i : Sti) : Nat → List Nat
  | 0 => []
  | k + 1 => layK i k ++ bitsOf (fldI i k).toNat (widK k)
theorem layK_01 (i : Sti) : ∀ k, Bits01 (layK i k)
  | 0 => fun b hb => by cases hb
  | k + 1 => (layK_01 i k).append (bitsOf_01 _ _)
theorem layK_le (i : Sti) : ∀ k, (layK i k).length ≤ 36 * k
  | 0 => Nat.zero_le _
  | k + 1 => by
    have := layK_le i k
    have := widK_le k
    show (layK i k ++ bitsOf _ _).length ≤ _
    rw [List.length_append, bitsOf_length]
    omega
theorem wrap_less {x : Int} (h : I64 x) (k : Nat) (hk : k ≤ 36) : inN (wrap64 (x - 1)) k ↔ inN (x - 1) k := by
  by_cases e : x = -9223372036854775808
  · subst e
    have : wrap64 (-9223372036854775808 - 1) = 9223372036854775807 := by unfold wrap64; omega
    rw [this]
    have hp : (2 : Nat) ^ k ≤ 2 ^ 36 := Nat.pow_le_pow_right (by decide) hk
    have h36 : (2 : Nat) ^ 36 = 68719476736 := by decide
    constructor
    · rintro ⟨_, q⟩
      have : (2 : Int) ^ k = ((2 ^ k : Nat) : Int) := by simp
      omega
    · rintro ⟨q, _⟩
      omega
  · have : wrap64 (x - 1) = x - 1 := by
      obtain ⟨a, b⟩ := h
      unfold wrap64
      omega
    rw [this]
theorem nums_all (i : Sti) (hf : IFit i) : numsOk i ↔ ∀ k, k < 8 → inN (fldI i k) (widK k) := by
  have h5 := wrap_less hf.ch 3 (by decide)
  have h6 := wrap_less hf.wd 5 (by decide)
  constructor
  · rintro ⟨a0, a1, a2, a3, a4, a5, a6, a7⟩ k hk
    match k, hk with
    | 0, _ => exact a0
    | 1, _ => exact a1
    | 2, _ => exact a2
    | 3, _ => exact a3
    | 4, _ => exact a4
    | 5, _ => exact h5.2 a5
    | 6, _ => exact h6.2 a6
    | 7, _ => exact a7
  · intro h
    exact ⟨h 0 (by decide), h 1 (by decide), h 2 (by decide), h 3 (by decide), h 4 (by decide), h5.1 (h 5 (by decide)), h6.1 (h 6 (by decide)), h 7 (by decide)⟩
theorem wrap_in {x : Int} (h : I64 x) {k : Nat} (hk : k ≤ 36) (hn : inN (x - 1) k) : wrap64 (x - 1) = x - 1 := by
  obtain ⟨a, b⟩ := hn
  obtain ⟨c, d⟩ := h
  unfold wrap64
  omega
theorem layK_all (i : Sti) (hf : IFit i) (h : numsOk i) : layK i 8 = layB i := by
  have e5 : wrap64 (i.ch - 1) = i.ch - 1 := wrap_in hf.ch (by decide) h.2.2.2.2.2.1
  have e6 : wrap64 (i.wd - 1) = i.wd - 1 := wrap_in hf.wd (by decide) h.2.2.2.2.2.2.1
  unfold layB
  rw [← e5, ← e6]
  rfl
theorem fld_fit (i : Sti) (hf : IFit i) (k : Nat) : I64 (fldI i k) := by
  unfold fldI
  split
  · exact hf.mn
  · exact hf.mx
  · exact hf.mf
  · exact hf.xf
  · exact hf.rt
  · unfold wrap64 I64; omega
  · unfold wrap64 I64; omega
  · exact hf.sm
theorem pow_cast (k : Nat) : (2 : Int) ^ k = ((2 ^ k : Nat) : Int) := by simp
theorem u64_in {x : Int} {k : Nat} (hk : k ≤ 36) (h : inN x k) : IntKind.u64.wrap x = (x.toNat : Int) := by
  obtain ⟨a, b⟩ := h
  have hp : (2 : Nat) ^ k ≤ 2 ^ 36 := Nat.pow_le_pow_right (by decide) hk
  have h36 : (2 : Nat) ^ 36 = 68719476736 := by decide
  rw [pow_cast] at b
  rw [IntKind.wrap_u64]
  omega
theorem u64_out {x : Int} (hx : I64 x) {k : Nat} (hk : k ≤ 36) (h : ¬ inN x k) : 0 ≤ IntKind.u64.wrap x ∧ IntKind.u64.wrap x < 18446744073709551616 ∧ (2 : Int) ^ k ≤ IntKind.u64.wrap x := by
  have hp : (2 : Nat) ^ k ≤ 2 ^ 36 := Nat.pow_le_pow_right (by decide) hk
  have h36 : (2 : Nat) ^ 36 = 68719476736 := by decide
  unfold inN at h
  rw [pow_cast] at h ⊢
  rw [IntKind.wrap_u64]
  obtain ⟨c, d⟩ := hx
  by_cases h0 : 0 ≤ x
  · omega
  · omega
/-- Put of one of the numbers. -/
theorem putk_ok (i : Sti) (hf : IFit i) (p k : Nat) (h : inN (fldI i k) (widK k)) (w : World) (ao : Option Addr) (B : List Nat) (h01 : Bits01 B) (hB : B.length ≤ 1000000000000) (hw : WrB w p ao B) :
    Calls Tryd.prog 46 #[.pointer (some ⟨p, 0, none⟩), .int .u64 (IntKind.u64.wrap (fldI i k)), .int .i64 (widK k : Int)] w fun e w' => e = .returned (.int .i64 0) ∧ ∃ ao', WrB w' p ao' (B ++ bitsOf (fldI i k).toNat (widK k)) ∧ Stays (foot p ao) w w' ∧ Moved w.heap.size ao ao' := by
  have hk := (widK_le k).2
  rw [u64_in hk h]
  exact put_ok p _ _ (by omega) (toN_lt h) w ao B h01 hB hw
theorem putk_no (i : Sti) (hf : IFit i) (p k : Nat) (h : ¬ inN (fldI i k) (widK k)) (w : World) :
    Calls Tryd.prog 46 #[.pointer (some ⟨p, 0, none⟩), .int .u64 (IntKind.u64.wrap (fldI i k)), .int .i64 (widK k : Int)] w fun e w' => e = .returned (.int .i64 11) ∧ w' = w := by
  have hk := (widK_le k).2
  obtain ⟨a, b, c⟩ := u64_out (fld_fit i hf k) hk h
  exact put_bad p _ _ a b (.inr (.inr ⟨by omega, by omega, by simpa using c⟩)) w
theorem xputk_ok (i : Sti) (hf : IFit i) (p k : Nat) (h : inN (fldI i k) (widK k)) (w : World) (ao : Option Addr) (B : List Nat) (hB : B.length ≤ 1000000000000) (hw : XwB w p ao B) :
    Calls Tryd.prog 24 #[.pointer (some ⟨p, 0, none⟩), .int .u64 (IntKind.u64.wrap (fldI i k)), .int .i64 (widK k : Int)] w fun e w' => e = .returned (.int .i64 0) ∧ ∃ ao', XwB w' p ao' (B ++ bitsOf (fldI i k).toNat (widK k)) ∧ Stays (foot p ao) w w' ∧ Moved w.heap.size ao ao' := by
  have hk := (widK_le k).2
  rw [u64_in hk h]
  exact refput_ok p _ _ (by omega) (toN_lt h) w ao B hB hw
theorem xputk_no (i : Sti) (hf : IFit i) (p k : Nat) (h : ¬ inN (fldI i k) (widK k)) (w : World) :
    Calls Tryd.prog 24 #[.pointer (some ⟨p, 0, none⟩), .int .u64 (IntKind.u64.wrap (fldI i k)), .int .i64 (widK k : Int)] w fun e w' => e = .returned (.int .i64 11) ∧ w' = w := by
  have hk := (widK_le k).2
  obtain ⟨a, b, c⟩ := u64_out (fld_fit i hf k) hk h
  exact refput_bad p _ _ a b (.inr (.inr ⟨by omega, by omega, by simpa using c⟩)) w

end Go.Proofs.YtfmpiidnemhijaaDoor
