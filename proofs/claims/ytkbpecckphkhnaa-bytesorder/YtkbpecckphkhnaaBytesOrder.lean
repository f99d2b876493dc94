/-
  For every a and b the law BytesOrder answers true: of the two numbers, cut to 0 to 2^36 - 1, the greater one has the greater text, the highest byte first, and no coded number is a beginning of another one. No condition is laid on a or b.
-/
import Derived.Test.YtkbpecckphkhnaaAwake
import Derived.WalkKit
import Derived.ProofKit
import Derived.OpenShut
import Derived.ShutString
import Derived.ChangeOld
import Derived.Below

namespace Go.Proofs.Ytkbpecckphkhnaa.bytesOrder
open Go.ChangeShapes Go.WideShapes Go.ChangeAt Go.RowKit

set_option linter.unusedSimpArgs false
set_option linter.unusedVariables false

theorem own : ownKnob Try.prog.godebug = none := by kernel_rfl
theorem laidOut : laidOutB Try.prog = true := by kernel_rfl

/-- A number from 0 to 2^36 - 1. -/
def cut (a : Int) : Nat := (max 0 (min a 68719476735)).toNat
theorem cut_lt (a : Int) : cut a < 68719476736 := by unfold cut; omega
theorem cut_eq (a : Int) : ∃ m : Int, (if (68719476735 : Int) < a then (68719476735 : Int) else a) = m ∧ (if 0 < m then m else 0) = (cut a : Int) := by
  refine ⟨_, rfl, ?_⟩
  unfold cut
  split <;> split <;> omega

/-- Of two lists of bytes that are as long the lesser text is the lesser number. -/
theorem less_val : ∀ (x y : List Nat), x.length = y.length → (∀ b ∈ x, b < 256) → (∀ b ∈ y, b < 256) →
    Op.bytesLess (x.map fun b => UInt8.ofNat b) (y.map fun b => UInt8.ofNat b) = decide (val x < val y)
  | [], [], _, _, _ => by simp [Op.bytesLess]
  | [], _ :: _, h, _, _ => by simp at h
  | _ :: _, [], h, _, _ => by simp at h
  | a :: x, b :: y, h, hx, hy => by
    have hl : x.length = y.length := by simpa using h
    have ha : a < 256 := hx a (by simp)
    have hb : b < 256 := hy b (by simp)
    have ih := less_val x y hl (fun c hc => hx c (by simp [hc])) (fun c hc => hy c (by simp [hc]))
    have vx := val_lt x (fun c hc => hx c (by simp [hc]))
    have vy := val_lt y (fun c hc => hy c (by simp [hc]))
    have e1 : (UInt8.ofNat a < UInt8.ofNat b) ↔ a < b := by
      rw [UInt8.lt_iff_toNat_lt]
      simp only [UInt8.toNat_ofNat']
      omega
    have e2 : (UInt8.ofNat a = UInt8.ofNat b) ↔ a = b := by
      rw [← UInt8.toNat_inj]
      simp only [UInt8.toNat_ofNat']
      omega
    simp only [List.map_cons, Op.bytesLess]
    rw [ih, val_cons, val_cons, hl]
    rw [← hl] at vy ⊢
    generalize 256 ^ x.length = p at *
    rw [Bool.eq_iff_iff]
    simp only [Bool.or_eq_true, Bool.and_eq_true, decide_eq_true_eq, beq_iff_eq, e1, e2]
    constructor
    · rintro (h1 | ⟨rfl, h2⟩)
      · have : (a + 1) * p ≤ b * p := Nat.mul_le_mul_right _ h1
        rw [Nat.add_mul] at this
        omega
      · omega
    · intro hlt
      by_cases h1 : a < b
      · exact .inl h1
      · by_cases h2 : a = b
        · subst h2
          exact .inr ⟨rfl, by omega⟩
        · have : (b + 1) * p ≤ a * p := Nat.mul_le_mul_right _ (by omega)
          rw [Nat.add_mul] at this
          omega

theorem be_less (a b : Nat) (ha : a < 68719476736) (hb : b < 68719476736) : Op.bytesLess (textOf (highL a 5)).toList (textOf (highL b 5)).toList = decide ((a : Int) < (b : Int)) := by
  have h := less_val (highL a 5) (highL b 5) (by rw [highL_length, highL_length]) (highL_lt a 5) (highL_lt b 5)
  have ea : val (highL a 5) = a := by rw [val_highL]; exact Nat.mod_eq_of_lt (by omega)
  have eb : val (highL b 5) = b := by rw [val_highL]; exact Nat.mod_eq_of_lt (by omega)
  rw [ea, eb] at h
  rw [ByteArray.toList_eq, ByteArray.toList_eq]
  have h2 : decide (a < b) = decide ((a : Int) < (b : Int)) := by
    rw [Bool.eq_iff_iff]
    simp only [decide_eq_true_eq]
    omega
  rw [← h2, ← h]
  rfl

/-- The beginning of a coded number is another one only where they are the same. -/
theorem code_apart (a b : Nat) (ha : a < 68719476736) (hb : b < 68719476736) (hne : a ≠ b) (hl : ¬ clen b < clen a) :
    (((textOf (codeL b (clen b))).extract 0 (clen a)).toList == (textOf (codeL a (clen a))).toList) = false := by
  rw [Bool.eq_false_iff]
  intro h
  rw [beq_iff_eq, ByteArray.toList_eq, ByteArray.toList_eq] at h
  have hra := clen_range a
  have hrb := clen_range b
  have h2 : bytesOf ((textOf (codeL b (clen b))).extract 0 (clen a)) = bytesOf (textOf (codeL a (clen a))) := by unfold bytesOf; rw [h]
  rw [bytesOf_extract, bytesOf_textOf _ (codeL_lt a _ hra.1 hra.2 (clen_bound a ha)), bytesOf_textOf _ (codeL_lt b _ hrb.1 hrb.2 (clen_bound b hb)), List.drop_zero] at h2
  refine hne (code_begins a b ha hb ((codeL b (clen b)).drop (clen a)) ?_)
  rw [← h2, List.take_append_drop]

set_option maxRecDepth 20000 in
set_option maxHeartbeats 3200000 in
theorem walk (a : Int) (a1 : -9223372036854775808 ≤ a) (a2 : a ≤ 9223372036854775807) (b : Int) (b1 : -9223372036854775808 ≤ b) (b2 : b ≤ 9223372036854775807) (w : World) :
    Calls Try.prog 7 #[.int .i64 a, .int .i64 b] w fun e w' => e = .returned (.bool true) ∧ Below w.heap.size w w' := by
  have ca := cut_lt a
  have cb := cut_lt b
  obtain ⟨ma, qa, ra⟩ := cut_eq a
  obtain ⟨mb, qb, rb⟩ := cut_eq b
  generalize cut a = x at *
  generalize cut b = y at *
  have fx : fitsB (x : Int) ((5 : Nat) : Int) = true := fits_of_nat x 5 (by omega) (by omega) (by omega)
  have fy : fitsB (y : Int) ((5 : Nat) : Int) = true := fits_of_nat y 5 (by omega) (by omega) (by omega)
  have k1 := fun w => be_spec (x : Int) ((5 : Nat) : Int) (by omega) (by omega) w
  have k2 := fun w => be_spec (y : Int) ((5 : Nat) : Int) (by omega) (by omega) w
  rw [wE_yes _ _ fx, beT_nat x 5 fx] at k1
  rw [wE_yes _ _ fy, beT_nat y 5 fy] at k2
  have k3 := fun w => coded_ok x ca w
  have k4 := fun w => coded_ok y cb w
  rw [codT_nat x ca, codE_nat x ca] at k3
  rw [codT_nat y cb, codE_nat y cb] at k4
  have hle := be_less x y ca cb
  have hap := code_apart x y ca cb
  have zx : (textOf (codeL x (clen x))).size = clen x := by rw [textOf_size, codeL_length]
  have zy : (textOf (codeL y (clen y))).size = clen y := by rw [textOf_size, codeL_length]
  have lx := clen_range x
  have ly := clen_range y
  generalize textOf (highL x 5) = t1 at *
  generalize textOf (highL y 5) = t2 at *
  generalize textOf (codeL x (clen x)) = t3 at *
  generalize textOf (codeL y (clen y)) = t4 at *
  generalize clen x = c1 at *
  generalize clen y = c2 at *
  clear fx fy
  by_cases hxy : x = y
  · subst hxy
    have e1 : ((x : Int) == (x : Int)) = true := by simp
    clear hap
    go_enter Try.func7, Try.ntmps7
    go_wp2_with fail
    refine (k1 _).mono ?_
    rintro e w1 ⟨rfl, hB1⟩
    go_wp2_with fail
    refine (k2 _).mono ?_
    rintro e w2 ⟨rfl, hB2⟩
    go_wp2_with fail
    refine (k3 _).mono ?_
    rintro e w3 ⟨rfl, hB3⟩
    go_wp2_with fail
    refine (k4 _).mono ?_
    rintro e w4 ⟨rfl, hB4⟩
    have h2 := hB1.trans (hB2.mono hB1.size)
    have h3 := h2.trans (hB3.mono h2.size)
    have h4 := h3.trans (hB4.mono h3.size)
    have H4 : Hid _ := h4
    clear hB1 hB2 hB3 hB4 h2 h3 h4
    go_wp2_with fail
    refine (awake_spec _).mono ?_
    rintro e w5 ⟨rfl, hB5⟩
    go_wp2
    go_ret
    exact ⟨rfl, H4.out.trans (hB5.mono H4.out.size)⟩
  · have e1 : ((x : Int) == (y : Int)) = false := by simp; omega
    by_cases hcc : c2 < c1
    · have e2 : decide ((c2 : Int) < (c1 : Int)) = true := by simp; omega
      clear hap hxy
      go_enter Try.func7, Try.ntmps7
      go_wp2_with fail
      refine (k1 _).mono ?_
      rintro e w1 ⟨rfl, hB1⟩
      go_wp2_with fail
      refine (k2 _).mono ?_
      rintro e w2 ⟨rfl, hB2⟩
      go_wp2_with fail
      refine (k3 _).mono ?_
      rintro e w3 ⟨rfl, hB3⟩
      go_wp2_with fail
      refine (k4 _).mono ?_
      rintro e w4 ⟨rfl, hB4⟩
      have h2 := hB1.trans (hB2.mono hB1.size)
      have h3 := h2.trans (hB3.mono h2.size)
      have h4 := h3.trans (hB4.mono h3.size)
      have H4 : Hid _ := h4
      clear hB1 hB2 hB3 hB4 h2 h3 h4
      go_wp2_with fail
      refine (awake_spec _).mono ?_
      rintro e w5 ⟨rfl, hB5⟩
      go_wp2
      go_ret
      exact ⟨rfl, H4.out.trans (hB5.mono H4.out.size)⟩
    · have e2 : decide ((c2 : Int) < (c1 : Int)) = false := by simp; omega
      have e3 := hap hxy hcc
      clear hap hxy
      go_enter Try.func7, Try.ntmps7
      go_wp2_with fail
      refine (k1 _).mono ?_
      rintro e w1 ⟨rfl, hB1⟩
      go_wp2_with fail
      refine (k2 _).mono ?_
      rintro e w2 ⟨rfl, hB2⟩
      go_wp2_with fail
      refine (k3 _).mono ?_
      rintro e w3 ⟨rfl, hB3⟩
      go_wp2_with fail
      refine (k4 _).mono ?_
      rintro e w4 ⟨rfl, hB4⟩
      have h2 := hB1.trans (hB2.mono hB1.size)
      have h3 := h2.trans (hB3.mono h2.size)
      have h4 := h3.trans (hB4.mono h3.size)
      have H4 : Hid _ := h4
      clear hB1 hB2 hB3 hB4 h2 h3 h4
      go_wp2_with fail
      refine (awake_spec _).mono ?_
      rintro e w5 ⟨rfl, hB5⟩
      go_wp2
      go_ret
      exact ⟨rfl, H4.out.trans (hB5.mono H4.out.size)⟩


set_option maxRecDepth 100000 in
theorem lifted (os : Os) (started : os.Started) (H : Type) (enc : TypeId × Value → H) :
    ReturnsInHanded {} Try.checked os 7 .any (Rows.bytesOrderSpec.pre6 enc Try.prog Try.f7 Rows.bytesOrderRow.domain false) (Rows.bytesOrderSpec.post enc Try.prog Try.f7 false true false false) := by
  refine returnsInHanded_of_change (C := Try.checked) own started (by kernel_rfl) Try.func7
    (ChangeSpec.witness6 (enc := enc) (C := Try.checked) false ⟨#[], #[.int .i64 0, .int .i64 0], []⟩ 8 (by kernel_rfl) (by kernel_rfl) (by kernel_rfl) (by kernel_rfl)) ?_
  intro W base args ds gs before hval0 hW hcnd _
  have hval : ∀ (j : Nat) t v, Try.f7.params[j]? = some t → args[j]? = some v → Value.okWide Try.prog W .any base t v := hval0
  have hW' := hW
  obtain ⟨p, q, hA0, hV, rfl, hfz, hnd⟩ := hW
  have hA : DataW.TrodAll enc Try.prog W 0 (fun _ => true) true Try.f7.params.toList args.toList ds p := hA0
  rw [Try.params7] at hA hval
  obtain ⟨v0, vs0, d0, ds0, p0, q0, hargs, rfl, rfl, h0, r0⟩ := trodAll_cons hA
  obtain ⟨v1, vs1, d1, ds1, p1, q1, rfl, rfl, rfl, h1, r1⟩ := trodAll_cons r0
  obtain ⟨rfl, rfl, rfl⟩ := trodAll_nil r1
  obtain rfl : args = #[v0, v1] := by cases args; simp_all
  obtain ⟨rfl, rfl⟩ := trodVars_none hV
  obtain ⟨a0, rfl, rfl, rfl, w0⟩ := open_int Try.underlying3 (hval 0 3 v0 rfl rfl) h0
  have b0 := bounds_i64 w0
  obtain ⟨a1, rfl, rfl, rfl, w1⟩ := open_int Try.underlying3 (hval 1 3 v1 rfl rfl) h1
  have b1 := bounds_i64 w1
  clear hA0 hval0
  refine (walk a0 b0.1 b0.2 a1 b1.1 b1.2 W).mono fun e W' ⟨he, bel⟩ => ?_
  subst he
  exact ⟨_, rfl, _, _, _, [], _, [], hW', trodAll_mk1 (shut_bool Try.underlying4 _), (trodAll_cons_mk (shut_int Try.underlying3 w0) (trodAll_cons_mk (shut_int Try.underlying3 w1) trodAll_mk0)), rfl, bel.frame _, fun h => by cases h⟩

theorem over : Rows.bytesOrderRow.holds Try.pinned (OpenSpec.ofChange Rows.bytesOrderSpec) :=
  OpenClaim.holds_of_wide 7 Try.f7 rfl rfl rfl rfl rfl rfl rfl ⟨rfl, rfl, rfl, rfl, rfl⟩ rfl rfl rfl rfl rfl (by kernel_rfl) Try.func7 (by kernel_rfl)
    (of_decide_eq_true (by kernel_rfl)) (by unfold Func.isWrapper; first | (rw [if_pos (by decide +kernel)]; kernel_rfl) | (rw [if_neg (by decide +kernel)]; exact ⟨rfl, rfl⟩))
    (fun os started H enc _ => lifted os started H enc)

end Go.Proofs.Ytkbpecckphkhnaa.bytesOrder
namespace Go.Proofs.Ytkbpecckphkhnaa
theorem bytesOrder_holds : Rows.BytesOrderSaid := bytesOrder.over
#print axioms bytesOrder_holds
end Go.Proofs.Ytkbpecckphkhnaa
