/-
  RiceBest: Best answers the recipe with the fewest bits, as the document does, and how many; Cost as well; whatever the block, the order, the residuals and the parameter. No condition.
-/
import Derived.Test.YtdlakbgcflekkaaR8best
import Derived.Test.YtdlakbgcflekkaaG2x
import Derived.WalkKit
import Derived.ProofKit
import Derived.OpenShut
import Derived.ShutString
import Derived.ChangeOld
import Derived.Below
import Derived.SizedLaws

namespace Go.Proofs.Ytdlakbgcflekkaa.riceBest
open Go.ChangeShapes Go.WideShapes Go.ChangeAt Go.RowKit
open Go.ChangeMaps (open_string shut_string)
set_option linter.unusedSimpArgs false
set_option linter.unusedVariables false

theorem own : ownKnob Try.prog.godebug = none := by kernel_rfl
theorem laidOut : laidOutB Try.prog = true := by kernel_rfl

theorem best_both (na nb : Int) (l : List Int) (hs : ShX l) (lo : Option Addr) (lc : Nat) (hc : l.length ≤ lc) (h0 : lo = none → lc = 0) (w0 : World) (hl : IntsAt w0 lo l) :
    ∃ (c : Rc) (v : Int), (∀ w, Below w0.heap.size w0 w → Calls Try.prog 26 #[.int .i64 na, .int .i64 nb, .slice lo l.length lc] w fun en w' => ∃ pa pc ea ec, en = .returned (.tuple #[riceV c pa pc ea ec, .int .i64 v]) ∧ RcAt w' c pa ea ∧ Below w.heap.size w w') ∧ (∀ w, Below w0.heap.size w0 w → Calls Try.prog 27 #[.int .i64 na, .int .i64 nb, .slice lo l.length lc] w fun en w' => ∃ pa pc ea ec, en = .returned (.tuple #[riceV c pa pc ea ec, .int .i64 v]) ∧ RcAt w' c pa ea ∧ Below w.heap.size w w') := by
  have hZ : ∀ wx : World, RcAt wx ⟨0, 0, [], []⟩ none none := fun wx => ⟨⟨by simp, by simp, fun h => by simp at h⟩, ⟨by simp, by simp, fun h => by simp at h⟩, by show (-9223372036854775808 : Int) ≤ 0; omega, by show (0 : Int) ≤ 9223372036854775807; omega, by show (-9223372036854775808 : Int) ≤ 0; omega, by show (0 : Int) ≤ 9223372036854775807; omega⟩
  by_cases hex : ∃ o : Nat, o ≤ 4 ∧ cutOk na nb o
  · obtain ⟨b, o, r, rfl, rfl, hC, ho, hall⟩ := finest_ex hex
    by_cases hn : l.length = b - r
    · refine ⟨bestRc l b r (bestK (ordS l b r) o), (ordS l b r (bestK (ordS l b r) o) : Int), fun w hb => ?_, fun w hb => xbest_main b o r hC ho hall l hs lo lc hc h0 w (hl.below hb) hn⟩
      refine (best_main b o r hC ho hall l hs lo lc hc h0 w (hl.below hb) hn).mono fun e w' hh => ?_
      obtain ⟨gp, ge, h1, h2, h3, h4, h5, h6⟩ := hh
      have hk := bestK_le (ordS l b r) o
      have h16 : 2 ^ bestK (ordS l b r) o ≤ 16 := Nat.pow_le_pow_right (by decide) (show bestK (ordS l b r) o ≤ 4 by omega)
      refine ⟨_, _, _, _, h1, ⟨h2.ints ?_ ?_, h3.ints ?_ ?_, ?_, ?_, ?_, ?_⟩, h6⟩
      · show (chP _ _).length ≤ _; rw [chP_len]; omega
      · intro n hn'
        obtain ⟨i, _, rfl⟩ := List.mem_map.1 hn'
        have := bestK_le (ordF l b r (bestK (ordS l b r) o) i) 14
        omega
      · show (chE _).length ≤ _; rw [chE_len]; omega
      · intro n hn'
        rw [(List.mem_replicate.1 hn').2]; omega
      · show (-9223372036854775808 : Int) ≤ 0; omega
      · show (0 : Int) ≤ 9223372036854775807; omega
      · show (-9223372036854775808 : Int) ≤ ((bestK (ordS l b r) o : Nat) : Int); omega
      · show ((bestK (ordS l b r) o : Nat) : Int) ≤ 9223372036854775807; omega
    · refine ⟨⟨0, 0, [], []⟩, -1, fun w hb => ?_, fun w hb => ?_⟩
      · exact (best_len b o r hC ho hall l hs lo lc hc h0 w (hl.below hb) hn).mono fun e w' hh => ⟨none, 0, none, 0, hh.1, hZ _, hh.2⟩
      · exact (xbest_no b r l hs.2 (fun o' h1 h2 => by have := hC.rb; omega) lo lc w).mono fun e w' hh => ⟨none, 0, none, 0, hh.1, hZ _, hh.2⟩
  · refine ⟨⟨0, 0, [], []⟩, -1, fun w hb => ?_, fun w hb => ?_⟩
    · exact (best_cut na nb (fun o' h1 h2 => hex ⟨o', h1, h2⟩) _ w).mono fun e w' hh => ⟨none, 0, none, 0, hh.1, hZ _, hh.2⟩
    · exact (xbest_no na nb l hs.2 (fun o' h1 h2 => absurd ⟨o', h1, h2⟩ hex) lo lc w).mono fun e w' hh => ⟨none, 0, none, 0, hh.1, hZ _, hh.2⟩

set_option maxRecDepth 20000 in
set_option maxHeartbeats 3200000 in
theorem walk (na nb : Int) (na1 : -9223372036854775808 ≤ na) (na2 : na ≤ 9223372036854775807) (nb1 : -9223372036854775808 ≤ nb) (nb2 : nb ≤ 9223372036854775807) (l : List Int) (lo : Option Addr) (lc : Nat) (hlc : l.length ≤ lc) (hl0 : lo = none → lc = 0) (k : Int) (k1 : -9223372036854775808 ≤ k) (k2 : k ≤ 9223372036854775807) (w : World) (rl : IntsAt w lo l) :
    Calls Try.prog 6 #[.agg #[.int .i64 na, .int .i64 nb], .slice lo l.length lc, .int .i64 k] w fun e w' => e = .returned (.bool true) ∧ Below w.heap.size w w' := by

  have KSh : Hid (∀ wx, Below w.heap.size w wx → Calls Try.prog 8 #[.slice lo l.length lc] wx fun e w' => e = .returned (.bool (shB l)) ∧ w' = wx) := fun wx hb => short_spec l lo lc wx (rl.below hb)
  have KAw : Hid (∀ wx, Calls Try.prog 9 #[] wx fun e w' => e = .returned (.bool true) ∧ Below wx.heap.size wx w') := fun wx => awake_spec wx
  have HTW : Hid ((w.alloc (.cells #[.int .i64 na, .int .i64 nb] 25)).heap[w.heap.size]? = some (.cells #[.int .i64 na, .int .i64 nb] 25 (0, 0))) := heap_alloc_new _ _
  have HBL : Hid (Below w.heap.size w (w.alloc (.cells #[.int .i64 na, .int .i64 nb] 25))) := (Below.refl _ _).alloc (Nat.le_refl _) _
  have HLi : Hid (IntsAt w lo l) := rl
  clear rl
  by_cases hsh : ShX l
  case neg =>
    rw [shB_no hsh] at KSh
    clear hsh
    go_enter Try.func6, Try.ntmps6
    go_upto_region 1 with fail
    generalize hwa : w.alloc _ = wa at *
    have hlw : w.heap.size < wa.heap.size := lt_of_block HTW.out
    have t0 : wa.cell? ⟨w.heap.size, 0, none⟩ = some (.int .i64 na) := by rw [cell_of_row _ _ _ _ _ _ HTW.out]; rfl
    have t1 : wa.cell? ⟨w.heap.size, 1, none⟩ = some (.int .i64 nb) := by rw [cell_of_row _ _ _ _ _ _ HTW.out]; rfl
    clear hwa
    go_quiet (fail)
    rename_i nq
    have HBq : Hid (Below w.heap.size w (wa.drewN nq)) := Below.drewN HBL.out nq
    generalize wa.drewN nq = wb at *
    clear t0 t1
    go_wp2_with fail
    refine (KSh.out wb HBq.out).mono ?_
    rintro e wb' ⟨rfl, rfl⟩
    go_wp2_with fail
    refine (KAw.out wb').mono ?_
    rintro e w2 ⟨rfl, hb2⟩
    have HB2 : Hid (Below w.heap.size w w2) := HBq.out.trans (hb2.mono HBq.out.size)
    clear hb2
    go_wp2_with fail
    go_ret
    exact ⟨rfl, HB2.out⟩
  case pos =>
    rw [shB_yes hsh] at KSh
    have HSX : Hid (ShX l) := hsh
    obtain ⟨c, v, kq0, kx0⟩ := best_both na nb l hsh lo lc hlc hl0 w HLi.out
    clear hsh
    go_enter Try.func6, Try.ntmps6
    go_upto_region 1 with fail
    generalize hwa : w.alloc _ = wa at *
    have hlw : w.heap.size < wa.heap.size := lt_of_block HTW.out
    have t0 : wa.cell? ⟨w.heap.size, 0, none⟩ = some (.int .i64 na) := by rw [cell_of_row _ _ _ _ _ _ HTW.out]; rfl
    have t1 : wa.cell? ⟨w.heap.size, 1, none⟩ = some (.int .i64 nb) := by rw [cell_of_row _ _ _ _ _ _ HTW.out]; rfl
    clear hwa
    go_quiet (fail)
    rename_i nq
    have HBq : Hid (Below w.heap.size w (wa.drewN nq)) := Below.drewN HBL.out nq
    generalize wa.drewN nq = wb at *
    clear t0 t1
    go_wp2_with fail
    refine (KSh.out wb HBq.out).mono ?_
    rintro e wb' ⟨rfl, rfl⟩
    have kq := kq0 wb' HBq.out
    clear kq0
    go_wp2_with fail
    refine kq.mono ?_
    rintro e w2 ⟨apa, apc, aea, aec, rfl, hra, hb2⟩
    have HB2 : Hid (Below w.heap.size w w2) := HBq.out.trans (hb2.mono HBq.out.size)
    have HB3 : Hid (Below w.heap.size w (w2.alloc (.cells (riceC c apa apc aea aec) 24))) := HB2.out.alloc HB2.out.size _
    have HX3 : Hid ((w2.alloc (.cells (riceC c apa apc aea aec) 24)).heap[w2.heap.size]? = some (.cells (riceC c apa apc aea aec) 24 (0, 0))) := heap_alloc_new _ _
    have HRA : Hid (RcAt (w2.alloc (.cells (riceC c apa apc aea aec) 24)) c apa aea) := hra.below ((Below.refl _ _).alloc (Nat.le_refl _) _)
    clear hb2 kq hra
    go_wp2_with fail
    generalize hw3 : World.alloc _ _ = w3 at *
    generalize hk3 : w2.heap.size = k3 at *
    clear hw3 hk3
    have kx := kx0 w3 HB3.out
    clear kx0
    refine kx.mono ?_
    rintro e w4 ⟨bpa, bpc, bea, bec, rfl, hrb, hb4⟩
    have HB4 : Hid (Below w.heap.size w w4) := HB3.out.trans (hb4.mono HB3.out.size)
    have HX4 : Hid (w4.heap[k3]? = some (.cells (riceC c apa apc aea aec) 24 (0, 0))) := by show _ = _; rw [hb4.block _ (lt_of_block HX3.out)]; exact HX3.out
    have HRA4 : Hid (RcAt w4 c apa aea) := HRA.out.below hb4
    have hbn : Below w4.heap.size w4 (w4.alloc (.cells (riceC c bpa bpc bea bec) 24)) := (Below.refl _ _).alloc (Nat.le_refl _) _
    have HB5 : Hid (Below w.heap.size w (w4.alloc (.cells (riceC c bpa bpc bea bec) 24))) := HB4.out.alloc HB4.out.size _
    have HY5 : Hid ((w4.alloc (.cells (riceC c bpa bpc bea bec) 24)).heap[w4.heap.size]? = some (.cells (riceC c bpa bpc bea bec) 24 (0, 0))) := heap_alloc_new _ _
    have HX5 : Hid ((w4.alloc (.cells (riceC c bpa bpc bea bec) 24)).heap[k3]? = some (.cells (riceC c apa apc aea aec) 24 (0, 0))) := by show _ = _; rw [hbn.block _ (lt_of_block HX4.out)]; exact HX4.out
    have HR5 : Hid (RcAt (w4.alloc (.cells (riceC c bpa bpc bea bec) 24)) c apa aea) := HRA4.out.below hbn
    have HS5 : Hid (RcAt (w4.alloc (.cells (riceC c bpa bpc bea bec) 24)) c bpa bea) := hrb.below hbn
    clear hb4 kx hrb hbn HX4 HRA4 HX3 HRA
    have hX5 := HX5.out
    have hY5 := HY5.out
    have y0 : (w4.alloc (.cells (riceC c bpa bpc bea bec) 24)).cell? ⟨k3, 0, none⟩ = some (.int .i64 c.m) := by rw [cell_of_row _ _ _ _ _ _ hX5]; rfl
    have y1 : (w4.alloc (.cells (riceC c bpa bpc bea bec) 24)).cell? ⟨k3, 1, none⟩ = some (.int .i64 c.o) := by rw [cell_of_row _ _ _ _ _ _ hX5]; rfl
    have y2 : (w4.alloc (.cells (riceC c bpa bpc bea bec) 24)).cell? ⟨k3, 2, none⟩ = some (.slice apa c.P.length apc) := by rw [cell_of_row _ _ _ _ _ _ hX5]; rfl
    have y3 : (w4.alloc (.cells (riceC c bpa bpc bea bec) 24)).cell? ⟨k3, 3, none⟩ = some (.slice aea c.E.length aec) := by rw [cell_of_row _ _ _ _ _ _ hX5]; rfl
    have z0 : (w4.alloc (.cells (riceC c bpa bpc bea bec) 24)).cell? ⟨w4.heap.size, 0, none⟩ = some (.int .i64 c.m) := by rw [cell_of_row _ _ _ _ _ _ hY5]; rfl
    have z1 : (w4.alloc (.cells (riceC c bpa bpc bea bec) 24)).cell? ⟨w4.heap.size, 1, none⟩ = some (.int .i64 c.o) := by rw [cell_of_row _ _ _ _ _ _ hY5]; rfl
    have z2 : (w4.alloc (.cells (riceC c bpa bpc bea bec) 24)).cell? ⟨w4.heap.size, 2, none⟩ = some (.slice bpa c.P.length bpc) := by rw [cell_of_row _ _ _ _ _ _ hY5]; rfl
    have z3 : (w4.alloc (.cells (riceC c bpa bpc bea bec) 24)).cell? ⟨w4.heap.size, 3, none⟩ = some (.slice bea c.E.length bec) := by rw [cell_of_row _ _ _ _ _ _ hY5]; rfl
    clear hX5 hY5
    go_wp2_with fail
    generalize hw5 : World.alloc _ _ = w5 at *
    generalize hk5 : w4.heap.size = k5 at *
    clear hw5 hk5
    have ks := same_same c apa apc aea aec bpa bpc bea bec w5 HR5.out HS5.out
    refine ks.mono ?_
    rintro e w6 ⟨rfl, hb6⟩
    have HB6 : Hid (Below w.heap.size w w6) := HB5.out.trans (hb6.mono HB5.out.size)
    clear ks hb6 y0 y1 y2 y3 z0 z1 z2 z3
    have kc := cost_spec l k lo lc HSX.out w6 (HLi.out.below HB6.out)
    go_wp2_with fail
    refine kc.mono ?_
    rintro e w7 ⟨rfl, n7, rfl⟩
    have HB7 : Hid (Below w.heap.size w (w6.drewN n7)) := Below.drewN HB6.out n7
    generalize w6.drewN n7 = w7 at *
    have kd := xcost_spec l k lo lc HSX.out w7 (HLi.out.below HB7.out)
    clear kc
    generalize costI l k = cc at *
    go_wp2_with fail
    refine kd.mono ?_
    rintro e w8 ⟨rfl, n8, rfl⟩
    have HB8 : Hid (Below w.heap.size w (w7.drewN n8)) := Below.drewN HB7.out n8
    generalize w7.drewN n8 = w8 at *
    clear kd
    go_wp2_with fail
    refine (KAw.out w8).mono ?_
    rintro e w9 ⟨rfl, hb9⟩
    have HB9 : Hid (Below w.heap.size w w9) := HB8.out.trans (hb9.mono HB8.out.size)
    clear hb9
    go_wp2_with fail
    go_ret
    exact ⟨rfl, HB9.out⟩


set_option maxRecDepth 100000 in
theorem lifted (os : Os) (started : os.Started) (H : Type) (enc : TypeId × Value → H) :
    ReturnsInHanded {} Try.checked os 6 .any (Rows.riceBestSpec.pre6 enc Try.prog Try.f6 Rows.riceBestRow.domain false) (Rows.riceBestSpec.post enc Try.prog Try.f6 false true false false) := by
  refine returnsInHanded_of_change_sized (C := Try.checked) own started (by kernel_rfl) Try.func6
    (ChangeSpec.witness6 (enc := enc) (C := Try.checked) false ⟨#[], #[.agg #[.int .i64 0, .int .i64 0], .slice none 0 0, .int .i64 0], []⟩ 8 (by kernel_rfl) (by kernel_rfl) (by kernel_rfl) (by kernel_rfl)) ?_
  intro W base args ds gs before hval0 hW hcnd0 hsz0 hholds
  have hval : ∀ (j : Nat) t v, Try.f6.params[j]? = some t → args[j]? = some v → Value.okWide Try.prog W .any base t v := hval0
  have hsz : (DataW.weightsEach Try.prog (Try.f6.params.toList ++ Rows.riceBestSpec.plain.varTypes Try.prog) (ds ++ gs)).all (· ≤ reachBytes) = true := hsz0
  have hW' := hW
  obtain ⟨p, q, hA0, hV, rfl, hfz, hnd⟩ := hW
  have hA : DataW.TrodAll enc Try.prog W 0 (fun _ => true) true Try.f6.params.toList args.toList ds p := hA0
  rw [Try.params6] at hA hval hsz
  obtain ⟨v0, vs0, d0, ds0, p0, q0, hargs, rfl, rfl, h0, r0⟩ := trodAll_cons hA
  obtain ⟨v1, vs1, d1, ds1, p1, q1, rfl, rfl, rfl, h1, r1⟩ := trodAll_cons r0
  obtain ⟨v2, vs2, d2, ds2, p2, q2, rfl, rfl, rfl, h2, r2⟩ := trodAll_cons r1
  obtain ⟨rfl, rfl, rfl⟩ := trodAll_nil r2
  obtain rfl : args = #[v0, v1, v2] := by cases args; simp_all
  obtain ⟨rfl, rfl⟩ := trodVars_none hV
  have hall := List.all_eq_true.1 hsz
  have k0 := h0
  have lt0 : ∀ x ∈ p0, x.block < W.heap.size := by obtain ⟨m, hm⟩ := k0; exact DataW.trod_lt m _ _ _ hm
  obtain ⟨xa0, xb0, rfl, ⟨ta0, tb0⟩, ⟨tc0, td0⟩⟩ := open_two (hval 0 25 v0 rfl rfl) h0
  have hw1 : ∀ n ∈ d1.weights Try.prog 22, n ≤ reachBytes := fun n hn => by
    have := hall n (List.mem_append.2 (.inr (List.mem_append.2 (.inl hn))))
    exact of_decide_eq_true this
  have k1 := h1
  have lt1 : ∀ x ∈ p1, x.block < W.heap.size := by obtain ⟨m, hm⟩ := k1; exact DataW.trod_lt m _ _ _ hm
  obtain ⟨o1, c1, x1, rfl, hr1, hc1, hn1⟩ := open_list (hval 1 22 v1 rfl rfl) h1 hw1
  obtain ⟨x2, rfl, rfl, rfl, i2⟩ := open_int Try.underlying3 (hval 2 3 v2 rfl rfl) h2
  have ib2 := bounds_i64 i2
  clear hA0 hval0
  refine (walk xa0 xb0 ta0 tb0 tc0 td0 x1 o1 c1 hc1 hn1 x2 ib2.1 ib2.2 W hr1).mono fun e W' ⟨he, bel⟩ => ?_
  subst he
  exact ⟨_, rfl, _, _, _, [], _, [], hW', trodAll_mk1 (shut_bool Try.underlying4 _), (trodAll_cons_mk (Below.trod laidOut (by kernel_rfl) (of_decide_eq_true (by kernel_rfl)) k0 bel lt0) (trodAll_cons_mk (Below.trod laidOut (by kernel_rfl) (of_decide_eq_true (by kernel_rfl)) k1 bel lt1) (trodAll_cons_mk (shut_int Try.underlying3 i2) trodAll_mk0))), rfl, bel.frame _, fun h => by cases h⟩

theorem over : Rows.riceBestRow.holds Try.pinned (OpenSpec.ofChange Rows.riceBestSpec) :=
  OpenClaim.holds_of_wide 6 Try.f6 rfl rfl rfl rfl rfl rfl rfl ⟨rfl, rfl, rfl, rfl, rfl⟩ rfl rfl rfl rfl rfl (by kernel_rfl) Try.func6 (by kernel_rfl)
    (of_decide_eq_true (by kernel_rfl)) (by unfold Func.isWrapper; first | (rw [if_pos (by decide +kernel)]; kernel_rfl) | (rw [if_neg (by decide +kernel)]; exact ⟨rfl, rfl⟩))
    (fun os started H enc _ => lifted os started H enc)

end Go.Proofs.Ytdlakbgcflekkaa.riceBest
namespace Go.Proofs.Ytdlakbgcflekkaa
theorem riceBest_holds : Rows.RiceBestSaid := riceBest.over
#print axioms riceBest_holds
end Go.Proofs.Ytdlakbgcflekkaa
