/-
  For every n and every k the law BitsRice answers true: the writer's Rice code of n with the parameter k has u / 2^k, 1 and k bits (u: twice n, or twice -n less 1), or answers the width's error and writes nothing where k is not 0 to 30 or u / 2^k is above 2^24. No condition is laid on n or k (the law itself passes over codes of 4000 to 2^24 bits 0).
-/
import Derived.Test.YtkikoamaceajcaaLight
import Derived.WalkKit
import Derived.ProofKit
import Derived.OpenShut
import Derived.ShutString
import Derived.ChangeOld
import Derived.Below
namespace Go.Proofs.Ytkikoamaceajcaa.bitsRice
open Go.ChangeShapes Go.WideShapes Go.ChangeAt Go.RowKit
set_option linter.unusedSimpArgs false
set_option linter.unusedVariables false

theorem own : ownKnob Try.prog.godebug = none := by kernel_rfl
theorem laidOut : laidOutB Try.prog = true := by kernel_rfl

set_option maxRecDepth 20000 in
set_option maxHeartbeats 3200000 in
theorem walk (n k : Int) (n1 : -9223372036854775808 ≤ n) (n2 : n ≤ 9223372036854775807) (w : World) :
    Calls Try.prog 6 #[.int .i64 n, .int .i64 k] w fun e w' => e = .returned (.bool true) ∧ Below w.heap.size w w' := by
  go_enter Try.func6, Try.ntmps6
  go_wp2_with fail
  refine (new_spec w).mono ?_
  rintro e w1 ⟨rfl, hW1, hw1⟩
  have hB1 : Below w.heap.size w w1 := by rw [hw1]; exact (Below.refl _ _).alloc (Nat.le_refl _) _
  have hz1 : w1.heap.size = w.heap.size + 1 := by rw [hw1]; simp
  clear hw1
  obtain ⟨p, hp⟩ : ∃ p, p = w.heap.size := ⟨_, rfl⟩
  rw [← hp] at hW1 ⊢
  have HP : Hid _ := hp
  have HZ1 : Hid _ := hz1
  clear hp hz1
  go_wp2_with fail
  refine (light_spec 3 k n 0 n1 n2 w1).mono ?_
  rintro e w2 ⟨rfl, hB2⟩
  have hW2 : WrB w2 p none [] := hW1.below hB2
  have HB2 : Hid (Below w.heap.size w w2) := hB1.trans (hB2.mono (by have := HZ1.out; omega))
  have hN2 : p < w2.heap.size := hW2.lt
  clear hB1 hB2 hW1
  by_cases hl : lightB 3 k n = true
  · rw [hl]
    by_cases hk : k < 0 ∨ 30 < k
    · go_wp2_with fail
      refine (rice_width p n k hk w2).mono ?_
      rintro e w3 ⟨rfl, rfl⟩
      have hd : (decide (k < 0) || decide (30 < k)) = true := by simpa using hk
      rcases hk with hk | hk
      · go_wp2_with fail
        refine (len_spec p _ none [] hW2).mono ?_
        rintro e w4 ⟨rfl, rfl⟩
        go_wp2_with fail
        refine (awake_spec _).mono ?_
        rintro e w5 ⟨rfl, hB5⟩
        go_wp2
        go_ret
        exact ⟨rfl, HB2.out.trans (hB5.mono (by have := HP.out; omega))⟩
      · go_wp2_with fail
        refine (len_spec p _ none [] hW2).mono ?_
        rintro e w4 ⟨rfl, rfl⟩
        go_wp2_with fail
        refine (awake_spec _).mono ?_
        rintro e w5 ⟨rfl, hB5⟩
        go_wp2
        go_ret
        exact ⟨rfl, HB2.out.trans (hB5.mono (by have := HP.out; omega))⟩
    · obtain ⟨j, rfl⟩ : ∃ j : Nat, k = (j : Int) := ⟨k.toNat, by omega⟩
      have hj : j ≤ 30 := by omega
      have hq0 : foldN n / 2 ^ j < 4000 ∨ 16777216 < foldN n / 2 ^ j := by
        have h := hl
        simp only [lightB] at h
        simp at h
        omega
      obtain ⟨q, hq⟩ : ∃ q, q = foldN n / 2 ^ j := ⟨_, rfl⟩
      have hqi : (foldN n : Int) / 2 ^ j = (q : Int) := by rw [div_cast, hq]
      rw [← hq] at hq0
      have HQ : Hid _ := hq
      clear hq hk hl
      rcases hq0 with hq0 | hq0
      · go_wp2_with fail
        refine (rice_ok p n n1 n2 j hj (by have := HQ.out; omega) w2 none [] (by intro b hb; cases hb) (by simp) hW2).mono ?_
        rintro e w3 ⟨rfl, ao3, hW3, hS3, hM3⟩
        have hB3 : Below w.heap.size w2 w3 := foot_below hS3 (by have := HP.out; omega) (by have := HP.out; omega) (fun b hb => by cases hb)
        have hN3 : p < w3.heap.size := hW3.lt
        have hlen : (([] : List Nat) ++ List.replicate (foldN n / 2 ^ j) 0 ++ [1] ++ bitsOf (foldN n) j).length = q + 1 + j := by
          have := HQ.out
          simp [bitsOf_length]
          omega
        have HB3 : Hid _ := hB3
        clear hS3 hM3 hB3 hW2
        go_wp2_with fail
        refine (fold_spec n n1 n2 w3).mono ?_
        rintro e w4 ⟨rfl, rfl⟩
        go_wp2_with fail
        refine (len_spec p _ ao3 _ hW3).mono ?_
        rintro e w5 ⟨rfl, rfl⟩
        rw [hlen]
        clear hlen
        go_wp2_with fail
        refine (fold_spec n n1 n2 _).mono ?_
        rintro e w6 ⟨rfl, rfl⟩
        go_wp2_with fail

        refine (awake_spec _).mono ?_
        rintro e w7 ⟨rfl, hB7⟩
        go_wp2
        go_ret
        exact ⟨rfl, (HB2.out.trans HB3.out).trans (hB7.mono (by have := HP.out; omega))⟩
      · go_wp2_with fail
        refine (rice_long p n n1 n2 j hj (by have := HQ.out; omega) w2).mono ?_
        rintro e w3 ⟨rfl, rfl⟩
        go_wp2_with fail
        refine (fold_spec n n1 n2 _).mono ?_
        rintro e w4 ⟨rfl, rfl⟩
        go_wp2_with fail
        refine (len_spec p _ none [] hW2).mono ?_
        rintro e w5 ⟨rfl, rfl⟩
        go_wp2_with fail
        refine (awake_spec _).mono ?_
        rintro e w7 ⟨rfl, hB7⟩
        go_wp2
        go_ret
        exact ⟨rfl, HB2.out.trans (hB7.mono (by have := HP.out; omega))⟩
  · have hl' : lightB 3 k n = false := by simpa using hl
    rw [hl']
    go_wp2_with fail
    refine (awake_spec w2).mono ?_
    rintro e w3 ⟨rfl, hB3⟩
    go_wp2
    go_ret
    exact ⟨rfl, HB2.out.trans (hB3.mono (by have := HP.out; omega))⟩

set_option maxRecDepth 100000 in
theorem lifted (os : Os) (started : os.Started) (H : Type) (enc : TypeId × Value → H) :
    ReturnsInHanded {} Try.checked os 6 .any (Rows.bitsRiceSpec.pre6 enc Try.prog Try.f6 Rows.bitsRiceRow.domain false) (Rows.bitsRiceSpec.post enc Try.prog Try.f6 false true false false) := by
  refine returnsInHanded_of_change (C := Try.checked) own started (by kernel_rfl) Try.func6
    (ChangeSpec.witness6 (enc := enc) (C := Try.checked) false ⟨#[], #[.int .i64 0, .int .i64 0], []⟩ 8 (by kernel_rfl) (by kernel_rfl) (by kernel_rfl) (by kernel_rfl)) ?_
  intro W base args ds gs before hval0 hW hcnd _
  have hval : ∀ (j : Nat) t v, Try.f6.params[j]? = some t → args[j]? = some v → Value.okWide Try.prog W .any base t v := hval0
  have hW' := hW
  obtain ⟨p, q, hA0, hV, rfl, hfz, hnd⟩ := hW
  have hA : DataW.TrodAll enc Try.prog W 0 (fun _ => true) true Try.f6.params.toList args.toList ds p := hA0
  rw [Try.params6] at hA hval
  obtain ⟨v0, vs0, d0, ds0, p0, q0, hargs, rfl, rfl, h0, r0⟩ := trodAll_cons hA
  obtain ⟨v1, vs1, d1, ds1, p1, q1, rfl, rfl, rfl, h1, r1⟩ := trodAll_cons r0
  obtain ⟨rfl, rfl, rfl⟩ := trodAll_nil r1
  obtain rfl : args = #[v0, v1] := by cases args; simp_all
  obtain ⟨rfl, rfl⟩ := trodVars_none hV
  obtain ⟨a0, rfl, rfl, rfl, w0⟩ := open_int Try.underlying3 (hval 0 3 v0 rfl rfl) h0
  obtain ⟨a1, rfl, rfl, rfl, w1⟩ := open_int Try.underlying3 (hval 1 3 v1 rfl rfl) h1
  clear hA0 hval0
  have b0 := bounds_i64 w0
  refine (walk a0 a1 b0.1 b0.2 W).mono fun e W' ⟨he, bel⟩ => ?_
  subst he
  exact ⟨_, rfl, _, _, _, [], _, [], hW', trodAll_mk1 (shut_bool Try.underlying4 _), (trodAll_cons_mk (shut_int Try.underlying3 w0) (trodAll_cons_mk (shut_int Try.underlying3 w1) trodAll_mk0)), rfl, bel.frame _, fun h => by cases h⟩

theorem over : Rows.bitsRiceRow.holds Try.pinned (OpenSpec.ofChange Rows.bitsRiceSpec) :=
  OpenClaim.holds_of_wide 6 Try.f6 rfl rfl rfl rfl rfl rfl rfl ⟨rfl, rfl, rfl, rfl, rfl⟩ rfl rfl rfl rfl rfl (by kernel_rfl) Try.func6 (by kernel_rfl)
    (of_decide_eq_true (by kernel_rfl)) (by unfold Func.isWrapper; first | (rw [if_pos (by decide +kernel)]; kernel_rfl) | (rw [if_neg (by decide +kernel)]; exact ⟨rfl, rfl⟩))
    (fun os started H enc _ => lifted os started H enc)

end Go.Proofs.Ytkikoamaceajcaa.bitsRice
namespace Go.Proofs.Ytkikoamaceajcaa
theorem bitsRice_holds : Rows.BitsRiceSaid := bitsRice.over
#print axioms bitsRice_holds
end Go.Proofs.Ytkikoamaceajcaa
