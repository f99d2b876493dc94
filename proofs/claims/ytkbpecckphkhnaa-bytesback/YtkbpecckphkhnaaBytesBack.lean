/-
  For every n, every width and every text behind the law BytesBack answers true: what Le and Be lay is read as it was, and has width bytes; a coded number with whatever behind it is read as it was, with as many bytes as it has; a rate is read as it was. The only bound is the statement's own on the text (at most 2^47 - 4096 bytes).
-/
import Derived.Test.YtkbpecckphkhnaaAwake
import Derived.WalkKit
import Derived.ProofKit
import Derived.OpenShut
import Derived.ShutString
import Derived.ChangeOld
import Derived.Below
import Derived.SizedLaws
namespace Go.Proofs.Ytkbpecckphkhnaa.bytesBack
open Go.ChangeShapes Go.WideShapes Go.ChangeAt Go.RowKit
open Go.ChangeMaps (open_string shut_string)
set_option linter.unusedSimpArgs false
set_option linter.unusedVariables false

theorem own : ownKnob Try.prog.godebug = none := by kernel_rfl
theorem laidOut : laidOutB Try.prog = true := by kernel_rfl

theorem back_le (n k : Int) (n2 : n ≤ 9223372036854775807) (h : fitsB n k = true) : fromBe (bytesOf (leT n k)).reverse = n ∧ ((leT n k).size : Int) = k ∧ (leT n k).size ≤ 8 := by
  obtain ⟨m, j, rfl, rfl, h1, h8, hm⟩ := fits_nat h
  have e : (lowL m j).reverse = highL m j := by rw [← lowL_reverse, List.reverse_reverse]
  have hv : val (highL m j) = m := by rw [val_highL]; exact Nat.mod_eq_of_lt hm
  rw [leT_nat m j h, bytesOf_textOf _ (lowL_lt m j), e, fromBe_of _ (by rw [highL_length]; exact h8) (by omega), hv, textOf_size, lowL_length]
  exact ⟨rfl, rfl, h8⟩

theorem back_be (n k : Int) (n2 : n ≤ 9223372036854775807) (h : fitsB n k = true) : fromBe (bytesOf (beT n k)) = n ∧ ((beT n k).size : Int) = k ∧ (beT n k).size ≤ 8 := by
  obtain ⟨m, j, rfl, rfl, h1, h8, hm⟩ := fits_nat h
  have hv : val (highL m j) = m := by rw [val_highL]; exact Nat.mod_eq_of_lt hm
  rw [beT_nat m j h, bytesOf_textOf _ (highL_lt m j), fromBe_of _ (by rw [highL_length]; exact h8) (by omega), hv, textOf_size, highL_length]
  exact ⟨rfl, rfl, h8⟩

theorem back_code (n : Int) (h : codB n = true) (behind : ByteArray) : triple (uncode (bytesOf (codT n ++ behind))) = .tuple #[.int .i64 n, .int .i64 ((codT n).size : Int), .int .i64 0] ∧ (codT n).size ≤ 7 := by
  obtain ⟨m, rfl, hm⟩ := codB_nat h
  have hr := clen_range m
  rw [codT_nat m hm, bytesOf_append, bytesOf_textOf _ (codeL_lt m _ hr.1 hr.2 (clen_bound m hm)), uncode_code m hm, textOf_size, codeL_length]
  exact ⟨rfl, hr.2⟩

theorem back_rate (n : Int) (h : ratB n = true) : pairV (frV (bytesOf (ratT n))) = .tuple #[.int .i64 n, .int .i64 0] ∧ (ratT n).size = 10 := by
  obtain ⟨m, rfl, h1, hm⟩ := ratB_nat h
  rw [ratT_nat m h1 hm, bytesOf_textOf _ (rateL_lt m), frV_rate m h1 hm, textOf_size, rateL_length]
  exact ⟨rfl, rfl⟩

set_option maxRecDepth 20000 in
set_option maxHeartbeats 3200000 in
theorem walk (n : Int) (n1 : -9223372036854775808 ≤ n) (n2 : n ≤ 9223372036854775807) (k : Int) (k1 : -9223372036854775808 ≤ k) (k2 : k ≤ 9223372036854775807) (behind : ByteArray) (hbehind : behind.size ≤ 140737488351232) (w : World) :
    Calls Try.prog 6 #[.int .i64 n, .int .i64 k, .string behind] w fun e w' => e = .returned (.bool true) ∧ Below w.heap.size w w' := by
  have k1 := fun w => le_spec n k n1 n2 w
  have k2 := fun w => be_spec n k n1 n2 w
  have k3 := fun w => coded_spec n n1 n2 w
  have k4 := fun w => rate_spec n w
  by_cases hf : fitsB n k = true
  · rw [wE_yes n k hf] at k1 k2
    obtain ⟨f1, s1, z1⟩ := back_le n k n2 hf
    obtain ⟨f2, s2, z2⟩ := back_be n k n2 hf
    have c1 := fun w => fromLe_spec (leT n k) (by omega) w
    have c2 := fun w => fromBe_spec (beT n k) (by omega) w
    rw [f1] at c1
    rw [f2] at c2
    generalize leT n k = t1 at *
    generalize beT n k = t2 at *
    clear f1 f2 hf
    by_cases hc : codB n = true
    · have e3 : codE n = 0 := by unfold codE; rw [hc]; rfl
      obtain ⟨f3, z3⟩ := back_code n hc behind
      have c3 := fun w => uncoded_spec (codT n ++ behind) (by rw [ByteArray.size_append]; omega) w
      rw [f3] at c3
      rw [e3] at k3
      generalize codT n = t3 at *
      clear f3 e3 hc
      by_cases hr : ratB n = true
      · have e4 : ratE n = 0 := by unfold ratE; rw [hr]; rfl
        obtain ⟨f4, z4⟩ := back_rate n hr
        have c4 := fun w => fromRate_spec (ratT n) (by omega) w
        rw [f4] at c4
        rw [e4] at k4
        generalize ratT n = t4 at *
        clear f4 e4 hr
        go_enter Try.func6, Try.ntmps6
        go_wp2_with fail
        refine (k1 _).mono ?_
        rintro e w1 ⟨rfl, hB1⟩
        go_wp2_with fail
        refine (c1 _).mono ?_
        rintro e x1 ⟨rfl, rfl⟩
        go_wp2_with fail
        refine (k2 _).mono ?_
        rintro e w2 ⟨rfl, hB2⟩
        go_wp2_with fail
        refine (c2 _).mono ?_
        rintro e x2 ⟨rfl, rfl⟩
        go_wp2_with fail
        refine (k3 _).mono ?_
        rintro e w3 ⟨rfl, hB3⟩
        go_wp2_with fail
        refine (c3 _).mono ?_
        rintro e x3 ⟨rfl, nd, rfl⟩
        go_wp2_with fail
        refine (k4 _).mono ?_
        rintro e w4 ⟨rfl, hB4⟩
        go_wp2_with fail
        refine (c4 _).mono ?_
        rintro e w5 ⟨rfl, hB5⟩
        have h2 := hB1.trans (hB2.mono hB1.size)
        have h3 := h2.trans (hB3.mono h2.size)
        have h3x := bel_drewN (n := nd) h3
        have h4 := h3x.trans (hB4.mono h3x.size)
        have h5 := h4.trans (hB5.mono h4.size)
        have H5 : Hid _ := h5
        clear hB1 hB2 hB3 hB4 h2 h3 h3x h4 h5 hB5
        go_wp2_with fail
        refine (awake_spec _).mono ?_
        rintro e w6 ⟨rfl, hB6⟩
        go_wp2
        go_ret
        exact ⟨rfl, H5.out.trans (hB6.mono H5.out.size)⟩
      · have hr : ratB n = false := by simpa using hr
        rw [ratE_no n hr, ratT_no n hr] at k4
        clear hr
        go_enter Try.func6, Try.ntmps6
        go_wp2_with fail
        refine (k1 _).mono ?_
        rintro e w1 ⟨rfl, hB1⟩
        go_wp2_with fail
        refine (c1 _).mono ?_
        rintro e x1 ⟨rfl, rfl⟩
        go_wp2_with fail
        refine (k2 _).mono ?_
        rintro e w2 ⟨rfl, hB2⟩
        go_wp2_with fail
        refine (c2 _).mono ?_
        rintro e x2 ⟨rfl, rfl⟩
        go_wp2_with fail
        refine (k3 _).mono ?_
        rintro e w3 ⟨rfl, hB3⟩
        go_wp2_with fail
        refine (c3 _).mono ?_
        rintro e x3 ⟨rfl, nd, rfl⟩
        go_wp2_with fail
        refine (k4 _).mono ?_
        rintro e w4 ⟨rfl, hB4⟩
        have h2 := hB1.trans (hB2.mono hB1.size)
        have h3 := h2.trans (hB3.mono h2.size)
        have h3x := bel_drewN (n := nd) h3
        have h4 := h3x.trans (hB4.mono h3x.size)
        have h5 := h4
        have H5 : Hid _ := h5
        clear hB1 hB2 hB3 hB4 h2 h3 h3x h4 h5
        go_wp2_with fail
        refine (awake_spec _).mono ?_
        rintro e w6 ⟨rfl, hB6⟩
        go_wp2
        go_ret
        exact ⟨rfl, H5.out.trans (hB6.mono H5.out.size)⟩
    · have hc : codB n = false := by simpa using hc
      rw [codE_no n hc, codT_no n hc] at k3
      clear hc
      by_cases hr : ratB n = true
      · have e4 : ratE n = 0 := by unfold ratE; rw [hr]; rfl
        obtain ⟨f4, z4⟩ := back_rate n hr
        have c4 := fun w => fromRate_spec (ratT n) (by omega) w
        rw [f4] at c4
        rw [e4] at k4
        generalize ratT n = t4 at *
        clear f4 e4 hr
        go_enter Try.func6, Try.ntmps6
        go_wp2_with fail
        refine (k1 _).mono ?_
        rintro e w1 ⟨rfl, hB1⟩
        go_wp2_with fail
        refine (c1 _).mono ?_
        rintro e x1 ⟨rfl, rfl⟩
        go_wp2_with fail
        refine (k2 _).mono ?_
        rintro e w2 ⟨rfl, hB2⟩
        go_wp2_with fail
        refine (c2 _).mono ?_
        rintro e x2 ⟨rfl, rfl⟩
        go_wp2_with fail
        refine (k3 _).mono ?_
        rintro e w3 ⟨rfl, hB3⟩
        go_wp2_with fail
        refine (k4 _).mono ?_
        rintro e w4 ⟨rfl, hB4⟩
        go_wp2_with fail
        refine (c4 _).mono ?_
        rintro e w5 ⟨rfl, hB5⟩
        have h2 := hB1.trans (hB2.mono hB1.size)
        have h3 := h2.trans (hB3.mono h2.size)
        have h3x := h3
        have h4 := h3x.trans (hB4.mono h3x.size)
        have h5 := h4.trans (hB5.mono h4.size)
        have H5 : Hid _ := h5
        clear hB1 hB2 hB3 hB4 h2 h3 h3x h4 h5 hB5
        go_wp2_with fail
        refine (awake_spec _).mono ?_
        rintro e w6 ⟨rfl, hB6⟩
        go_wp2
        go_ret
        exact ⟨rfl, H5.out.trans (hB6.mono H5.out.size)⟩
      · have hr : ratB n = false := by simpa using hr
        rw [ratE_no n hr, ratT_no n hr] at k4
        clear hr
        go_enter Try.func6, Try.ntmps6
        go_wp2_with fail
        refine (k1 _).mono ?_
        rintro e w1 ⟨rfl, hB1⟩
        go_wp2_with fail
        refine (c1 _).mono ?_
        rintro e x1 ⟨rfl, rfl⟩
        go_wp2_with fail
        refine (k2 _).mono ?_
        rintro e w2 ⟨rfl, hB2⟩
        go_wp2_with fail
        refine (c2 _).mono ?_
        rintro e x2 ⟨rfl, rfl⟩
        go_wp2_with fail
        refine (k3 _).mono ?_
        rintro e w3 ⟨rfl, hB3⟩
        go_wp2_with fail
        refine (k4 _).mono ?_
        rintro e w4 ⟨rfl, hB4⟩
        have h2 := hB1.trans (hB2.mono hB1.size)
        have h3 := h2.trans (hB3.mono h2.size)
        have h3x := h3
        have h4 := h3x.trans (hB4.mono h3x.size)
        have h5 := h4
        have H5 : Hid _ := h5
        clear hB1 hB2 hB3 hB4 h2 h3 h3x h4 h5
        go_wp2_with fail
        refine (awake_spec _).mono ?_
        rintro e w6 ⟨rfl, hB6⟩
        go_wp2
        go_ret
        exact ⟨rfl, H5.out.trans (hB6.mono H5.out.size)⟩
  · have hf : fitsB n k = false := by simpa using hf
    rw [wE_no n k hf, leT_no n k hf] at k1
    rw [wE_no n k hf, beT_no n k hf] at k2
    clear hf
    by_cases hc : codB n = true
    · have e3 : codE n = 0 := by unfold codE; rw [hc]; rfl
      obtain ⟨f3, z3⟩ := back_code n hc behind
      have c3 := fun w => uncoded_spec (codT n ++ behind) (by rw [ByteArray.size_append]; omega) w
      rw [f3] at c3
      rw [e3] at k3
      generalize codT n = t3 at *
      clear f3 e3 hc
      by_cases hr : ratB n = true
      · have e4 : ratE n = 0 := by unfold ratE; rw [hr]; rfl
        obtain ⟨f4, z4⟩ := back_rate n hr
        have c4 := fun w => fromRate_spec (ratT n) (by omega) w
        rw [f4] at c4
        rw [e4] at k4
        generalize ratT n = t4 at *
        clear f4 e4 hr
        go_enter Try.func6, Try.ntmps6
        go_wp2_with fail
        refine (k1 _).mono ?_
        rintro e w1 ⟨rfl, hB1⟩
        go_wp2_with fail
        refine (k2 _).mono ?_
        rintro e w2 ⟨rfl, hB2⟩
        go_wp2_with fail
        refine (k3 _).mono ?_
        rintro e w3 ⟨rfl, hB3⟩
        go_wp2_with fail
        refine (c3 _).mono ?_
        rintro e x3 ⟨rfl, nd, rfl⟩
        go_wp2_with fail
        refine (k4 _).mono ?_
        rintro e w4 ⟨rfl, hB4⟩
        go_wp2_with fail
        refine (c4 _).mono ?_
        rintro e w5 ⟨rfl, hB5⟩
        have h2 := hB1.trans (hB2.mono hB1.size)
        have h3 := h2.trans (hB3.mono h2.size)
        have h3x := bel_drewN (n := nd) h3
        have h4 := h3x.trans (hB4.mono h3x.size)
        have h5 := h4.trans (hB5.mono h4.size)
        have H5 : Hid _ := h5
        clear hB1 hB2 hB3 hB4 h2 h3 h3x h4 h5 hB5
        go_wp2_with fail
        refine (awake_spec _).mono ?_
        rintro e w6 ⟨rfl, hB6⟩
        go_wp2
        go_ret
        exact ⟨rfl, H5.out.trans (hB6.mono H5.out.size)⟩
      · have hr : ratB n = false := by simpa using hr
        rw [ratE_no n hr, ratT_no n hr] at k4
        clear hr
        go_enter Try.func6, Try.ntmps6
        go_wp2_with fail
        refine (k1 _).mono ?_
        rintro e w1 ⟨rfl, hB1⟩
        go_wp2_with fail
        refine (k2 _).mono ?_
        rintro e w2 ⟨rfl, hB2⟩
        go_wp2_with fail
        refine (k3 _).mono ?_
        rintro e w3 ⟨rfl, hB3⟩
        go_wp2_with fail
        refine (c3 _).mono ?_
        rintro e x3 ⟨rfl, nd, rfl⟩
        go_wp2_with fail
        refine (k4 _).mono ?_
        rintro e w4 ⟨rfl, hB4⟩
        have h2 := hB1.trans (hB2.mono hB1.size)
        have h3 := h2.trans (hB3.mono h2.size)
        have h3x := bel_drewN (n := nd) h3
        have h4 := h3x.trans (hB4.mono h3x.size)
        have h5 := h4
        have H5 : Hid _ := h5
        clear hB1 hB2 hB3 hB4 h2 h3 h3x h4 h5
        go_wp2_with fail
        refine (awake_spec _).mono ?_
        rintro e w6 ⟨rfl, hB6⟩
        go_wp2
        go_ret
        exact ⟨rfl, H5.out.trans (hB6.mono H5.out.size)⟩
    · have hc : codB n = false := by simpa using hc
      rw [codE_no n hc, codT_no n hc] at k3
      clear hc
      by_cases hr : ratB n = true
      · have e4 : ratE n = 0 := by unfold ratE; rw [hr]; rfl
        obtain ⟨f4, z4⟩ := back_rate n hr
        have c4 := fun w => fromRate_spec (ratT n) (by omega) w
        rw [f4] at c4
        rw [e4] at k4
        generalize ratT n = t4 at *
        clear f4 e4 hr
        go_enter Try.func6, Try.ntmps6
        go_wp2_with fail
        refine (k1 _).mono ?_
        rintro e w1 ⟨rfl, hB1⟩
        go_wp2_with fail
        refine (k2 _).mono ?_
        rintro e w2 ⟨rfl, hB2⟩
        go_wp2_with fail
        refine (k3 _).mono ?_
        rintro e w3 ⟨rfl, hB3⟩
        go_wp2_with fail
        refine (k4 _).mono ?_
        rintro e w4 ⟨rfl, hB4⟩
        go_wp2_with fail
        refine (c4 _).mono ?_
        rintro e w5 ⟨rfl, hB5⟩
        have h2 := hB1.trans (hB2.mono hB1.size)
        have h3 := h2.trans (hB3.mono h2.size)
        have h3x := h3
        have h4 := h3x.trans (hB4.mono h3x.size)
        have h5 := h4.trans (hB5.mono h4.size)
        have H5 : Hid _ := h5
        clear hB1 hB2 hB3 hB4 h2 h3 h3x h4 h5 hB5
        go_wp2_with fail
        refine (awake_spec _).mono ?_
        rintro e w6 ⟨rfl, hB6⟩
        go_wp2
        go_ret
        exact ⟨rfl, H5.out.trans (hB6.mono H5.out.size)⟩
      · have hr : ratB n = false := by simpa using hr
        rw [ratE_no n hr, ratT_no n hr] at k4
        clear hr
        go_enter Try.func6, Try.ntmps6
        go_wp2_with fail
        refine (k1 _).mono ?_
        rintro e w1 ⟨rfl, hB1⟩
        go_wp2_with fail
        refine (k2 _).mono ?_
        rintro e w2 ⟨rfl, hB2⟩
        go_wp2_with fail
        refine (k3 _).mono ?_
        rintro e w3 ⟨rfl, hB3⟩
        go_wp2_with fail
        refine (k4 _).mono ?_
        rintro e w4 ⟨rfl, hB4⟩
        have h2 := hB1.trans (hB2.mono hB1.size)
        have h3 := h2.trans (hB3.mono h2.size)
        have h3x := h3
        have h4 := h3x.trans (hB4.mono h3x.size)
        have h5 := h4
        have H5 : Hid _ := h5
        clear hB1 hB2 hB3 hB4 h2 h3 h3x h4 h5
        go_wp2_with fail
        refine (awake_spec _).mono ?_
        rintro e w6 ⟨rfl, hB6⟩
        go_wp2
        go_ret
        exact ⟨rfl, H5.out.trans (hB6.mono H5.out.size)⟩


set_option maxRecDepth 100000 in
theorem lifted (os : Os) (started : os.Started) (H : Type) (enc : TypeId × Value → H) :
    ReturnsInHanded {} Try.checked os 6 .any (Rows.bytesBackSpec.pre6 enc Try.prog Try.f6 Rows.bytesBackRow.domain false) (Rows.bytesBackSpec.post enc Try.prog Try.f6 false true false false) := by
  refine returnsInHanded_of_change_sized (C := Try.checked) own started (by kernel_rfl) Try.func6
    (ChangeSpec.witness6 (enc := enc) (C := Try.checked) false ⟨#[], #[.int .i64 0, .int .i64 0, .string ByteArray.empty], []⟩ 8 (by kernel_rfl) (by kernel_rfl) (by kernel_rfl) (by kernel_rfl)) ?_
  intro W base args ds gs before hval0 hW hcnd0 hsz0 hholds
  have hval : ∀ (j : Nat) t v, Try.f6.params[j]? = some t → args[j]? = some v → Value.okWide Try.prog W .any base t v := hval0
  have hsz : (DataW.weightsEach Try.prog (Try.f6.params.toList ++ Rows.bytesBackSpec.plain.varTypes Try.prog) (ds ++ gs)).all (· ≤ reachBytes) = true := hsz0
  have hW' := hW
  obtain ⟨p, q, hA0, hV, rfl, hfz, hnd⟩ := hW
  have hA : DataW.TrodAll enc Try.prog W 0 (fun _ => true) true Try.f6.params.toList args.toList ds p := hA0
  rw [Try.params6] at hA hval hsz
  obtain ⟨v0, vs0, d0, ds0, p0, q0, hargs, rfl, rfl, h0, r0⟩ := trodAll_cons hA
  obtain ⟨v1, vs1, d1, ds1, p1, q1, rfl, rfl, rfl, h1, r1⟩ := trodAll_cons r0
  obtain ⟨v2, vs2, d2, ds2, p2, q2, rfl, rfl, rfl, h2, r2⟩ := trodAll_cons r1
  obtain ⟨rfl, rfl, rfl⟩ := trodAll_nil r2
  obtain rfl : args = #[v0, v1, v2] := by cases args; simp_all
  obtain ⟨rfl, rfl⟩ := trodVars_none hV
  obtain ⟨a0, rfl, rfl, rfl, w0⟩ := open_int Try.underlying3 (hval 0 3 v0 rfl rfl) h0
  have b0 := bounds_i64 w0
  obtain ⟨a1, rfl, rfl, rfl, w1⟩ := open_int Try.underlying3 (hval 1 3 v1 rfl rfl) h1
  have b1 := bounds_i64 w1
  obtain ⟨s2, rfl, rfl, rfl, hs2⟩ := open_string Try.underlying9 (hval 2 9 v2 rfl rfl) h2
  have hq2 := sized_string hsz (j := 2) (t := 9) rfl rfl
  have hz2 : s2.size ≤ 140737488351232 := by
    have e : s2.data.toList.length = s2.size := by rw [Array.length_toList]; rfl
    rw [e] at hq2
    simp only [reachBytes] at hq2
    omega
  clear hA0 hval0
  refine (walk a0 b0.1 b0.2 a1 b1.1 b1.2 s2 hz2 W).mono fun e W' ⟨he, bel⟩ => ?_
  subst he
  exact ⟨_, rfl, _, _, _, [], _, [], hW', trodAll_mk1 (shut_bool Try.underlying4 _), (trodAll_cons_mk (shut_int Try.underlying3 w0) (trodAll_cons_mk (shut_int Try.underlying3 w1) (trodAll_cons_mk (shut_string Try.underlying9 hs2) trodAll_mk0))), rfl, bel.frame _, fun h => by cases h⟩

theorem over : Rows.bytesBackRow.holds Try.pinned (OpenSpec.ofChange Rows.bytesBackSpec) :=
  OpenClaim.holds_of_wide 6 Try.f6 rfl rfl rfl rfl rfl rfl rfl ⟨rfl, rfl, rfl, rfl, rfl⟩ rfl rfl rfl rfl rfl (by kernel_rfl) Try.func6 (by kernel_rfl)
    (of_decide_eq_true (by kernel_rfl)) (by unfold Func.isWrapper; first | (rw [if_pos (by decide +kernel)]; kernel_rfl) | (rw [if_neg (by decide +kernel)]; exact ⟨rfl, rfl⟩))
    (fun os started H enc _ => lifted os started H enc)

end Go.Proofs.Ytkbpecckphkhnaa.bytesBack
namespace Go.Proofs.Ytkbpecckphkhnaa
theorem bytesBack_holds : Rows.BytesBackSaid := bytesBack.over
#print axioms bytesBack_holds
end Go.Proofs.Ytkbpecckphkhnaa
