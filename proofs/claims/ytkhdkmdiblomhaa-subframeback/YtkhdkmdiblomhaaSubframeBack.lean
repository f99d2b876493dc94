/-
  SubframeBack: what Encode wrote is read by Decode as it was, with its recipe, and just so far; whatever the recipe, the width and the samples. No condition.
-/
import Derived.Test.YtkhdkmdiblomhaaG35x
import Derived.Deep.CutRange
import Derived.WalkKit
import Derived.ProofKit
import Derived.OpenShut
import Derived.ShutString
import Derived.ChangeOld
import Derived.Below
import Derived.SizedLaws

namespace Go.Proofs.Ytkhdkmdiblomhaa.subframeBack
open Go.ChangeShapes Go.WideShapes Go.ChangeAt Go.RowKit
open Go.ChangeMaps (open_string shut_string)
set_option linter.unusedSimpArgs false
set_option linter.unusedVariables false

theorem own : ownKnob Try.prog.godebug = none := by kernel_rfl
theorem laidOut : laidOutB Try.prog = true := by kernel_rfl

set_option maxRecDepth 20000 in
set_option maxHeartbeats 3200000 in
theorem walk (s : Sb) (sca : Option Addr) (scc : Nat) (spa : Option Addr) (spc : Nat) (sea : Option Addr) (sec : Nat) (hsc : s.C.length ≤ scc) (hs0 : sca = none → scc = 0) (width : Int) (width1 : -9223372036854775808 ≤ width) (width2 : width ≤ 9223372036854775807) (l : List Int) (lo : Option Addr) (lc : Nat) (hlc : l.length ≤ lc) (hl0 : lo = none → lc = 0) (w : World) (rs : SbAt w s sca spa sea) (rl : IntsAt w lo l) :
    Calls Try.prog 3 #[subV s sca scc spa spc sea sec, .int .i64 width, .slice lo l.length lc] w fun e w' => e = .returned (.bool true) ∧ Below w.heap.size w w' := by

  have KAw : Hid (∀ wx, Calls Try.prog 7 #[] wx fun e w' => e = .returned (.bool true) ∧ Below wx.heap.size wx w') := fun wx => awake_spec wx
  have HX0 : Hid ((w.alloc (.cells (subC s sca scc spa spc sea sec) 26)).heap[w.heap.size]? = some (.cells (subC s sca scc spa spc sea sec) 26 (0, 0))) := heap_alloc_new _ _
  have HL0 : Hid (Below w.heap.size w (w.alloc (.cells (subC s sca scc spa spc sea sec) 26))) := (Below.refl _ _).alloc (Nat.le_refl _) _
  have HS : Hid (SbAt w s sca spa sea) := rs
  have HI : Hid (IntsAt w lo l) := rl
  have hln := rl.len
  clear rs rl
  by_cases hsh : l.length ≤ 300
  case neg =>
    have ks := fun wx => short10_no l lo lc wx hln hsh
    go_enter Try.func3, Try.ntmps3
    go_wp2_with fail
    generalize hwa : World.alloc _ _ = wa at *
    clear hwa
    refine (ks wa).mono ?_
    rintro e wb ⟨rfl, hq⟩
    subst hq
    clear ks
    go_wp2_with fail
    refine (KAw.out wb).mono ?_
    rintro e w2 ⟨rfl, hb2⟩
    have HL2 : Hid (Below w.heap.size w w2) := HL0.out.trans (hb2.mono HL0.out.size)
    clear hb2
    go_wp2_with fail
    go_ret
    exact ⟨rfl, HL2.out⟩
  case pos =>
    have ks := fun wx => short10_yes l lo lc wx hsh
    go_enter Try.func3, Try.ntmps3
    go_wp2_with fail
    generalize hwa : World.alloc _ _ = wa at *
    clear hwa
    refine (ks wa).mono ?_
    rintro e wb ⟨rfl, hq⟩
    subst hq
    clear ks
    have hza : w.heap.size < wb.heap.size := lt_of_block HX0.out
    have kn := new_spec wb
    go_wp2_with fail
    refine kn.mono ?_
    rintro e w3 ⟨rfl, hw3, hq3⟩
    have hb3 : Below wb.heap.size wb w3 := by rw [hq3]; exact (Below.refl _ _).alloc (Nat.le_refl _) _
    have HW3 : Hid (WrB w3 wb.heap.size none []) := hw3
    have HL3 : Hid (Below w.heap.size w w3) := HL0.out.trans (hb3.mono HL0.out.size)
    have HX3 : Hid (w3.heap[w.heap.size]? = some (.cells (subC s sca scc spa spc sea sec) 26 (0, 0))) := by show _ = _; rw [hb3.block _ hza]; exact HX0.out
    clear kn hw3 hq3 hb3 HL0 HX0
    generalize hp : wb.heap.size = p at *
    clear hp
    have hap : ∀ (xo : Option Addr) (L : List Int), IntsAt w xo L → Apart p none xo L := fun xo L hx => apart_old hx (by omega)
    obtain ⟨x0, x1, x2, x3, x4, x5, x6, x7, x8, x9⟩ := sub_cells HX3.out
    by_cases hok : okS s width l
    case neg =>
      have ke := does10.enc_no s width l sca scc spa spc sea sec lo lc p none [] w3 hlc hl0 hs0 hsc (by omega) ⟨width1, width2⟩ Bits01.nil (by decide) (HS.out.below HL3.out) (HI.out.below HL3.out) HW3.out (hap _ _ HS.out.C) (hap _ _ HS.out.R.P) (hap _ _ HS.out.R.E) (hap _ _ HI.out) hok
      clear hap hok
      go_wp2_with fail
      refine ke.mono ?_
      rintro e w4 ⟨rfl, hb4⟩
      have HL4 : Hid (Below w.heap.size w w4) := HL3.out.trans (hb4.mono HL3.out.size)
      have kl := len_spec p w4 none [] (HW3.out.below hb4)
      clear ke hb4 x0 x1 x2 x3 x4 x5 x6 x7 x8 x9 HL3 HX3 HW3
      go_wp2_with fail
      refine kl.mono ?_
      rintro e w4' ⟨rfl, hq⟩
      subst hq
      clear kl
      go_wp2_with fail
      refine (KAw.out w4').mono ?_
      rintro e w5 ⟨rfl, hb5⟩
      have HL5 : Hid (Below w.heap.size w w5) := HL4.out.trans (hb5.mono HL4.out.size)
      clear hb5
      go_wp2_with fail
      go_ret
      exact ⟨rfl, HL5.out⟩
    case pos =>
      have ke := does10.enc_ok s width l sca scc spa spc sea sec lo lc p none [] w3 hlc hl0 hs0 hsc Bits01.nil (by decide) (HS.out.below HL3.out) (HI.out.below HL3.out) HW3.out (hap _ _ HS.out.C) (hap _ _ HS.out.R.P) (hap _ _ HS.out.R.E) (hap _ _ HI.out) hok
      rw [List.nil_append] at ke
      have hbk := back10 s width l hok
      have hrm := subB_room s width l hok
      have h01 := subB_01 s width l
      have HAR : Hid ((1 ≤ (l.length : Int) ∧ (l.length : Int) ≤ 65535) ∧ (1 ≤ width ∧ width ≤ 33)) := ⟨hok.1.1, hok.1.2.1⟩
      clear hap hok
      generalize subB s width l = BB at *
      have HBK : Hid (decS (textOf (pack BB)) 0 l.length width = some (l, s, BB.length)) := hbk
      clear hbk
      go_wp2_with fail
      refine ke.mono ?_
      rintro e w4 ⟨rfl, ao4, hw4, hs4, hm4⟩
      have HL4 : Hid (Below w.heap.size w w4) := HL3.out.trans (foot_below hs4 HL3.out.size (by omega) (fun b hb => by cases hb))
      have HX4 : Hid (w4.heap[w.heap.size]? = some (.cells (subC s sca scc spa spc sea sec) 26 (0, 0))) := by show _ = _; rw [hs4.block _ (lt_of_block HX3.out) (foot_ne (by omega))]; exact HX3.out
      have HW4 : Hid (WrB w4 p ao4 BB) := hw4
      have hp4 := hw4.lt
      have hao4 := hw4.blocks
      have kb := bytes_spec p w4 ao4 BB h01 (by omega) hw4
      have hsz : (textOf (pack BB)).size ≤ 1000000000000 := by rw [textOf_size, pack_length]; omega
      have ko := of_spec (textOf (pack BB)) (by omega) w4
      clear ke hw4 hs4 hm4 x0 x1 x2 x3 x4 x5 x6 x7 x8 x9 HL3 HX3 HW3
      go_wp2_with fail
      refine kb.mono ?_
      rintro e w4' ⟨rfl, hq⟩
      subst hq
      clear kb
      go_wp2_with fail
      refine ko.mono ?_
      rintro e w5 ⟨rfl, hrd5, hb5⟩
      have HL5 : Hid (Below w.heap.size w w5) := HL4.out.trans (hb5.mono HL4.out.size)
      have HX5 : Hid (w5.heap[w.heap.size]? = some (.cells (subC s sca scc spa spc sea sec) 26 (0, 0))) := by show _ = _; rw [hb5.block _ (lt_of_block HX4.out)]; exact HX4.out
      have HW5 : Hid (WrB w5 p ao4 BB) := HW4.out.below hb5
      have hz4 := HL4.out.size
      have hxl := lt_of_block HX4.out
      have kd := does10.dec_ok w4'.heap.size (textOf (pack BB)) 0 l.length width l s BB.length w5 (by omega) (by omega) HAR.out.1 HAR.out.2 hrd5 HBK.out
      clear ko hrd5 hb5 HX4 HL4 HW4 HBK HAR
      generalize hqq : w4'.heap.size = q at *
      clear hqq
      go_wp2_with fail
      refine kd.mono ?_
      rintro e w6 ⟨la, lc2, ca, cc, pa, pc, ea, ec, rfl, hi6, _, hs6, _, _, hr6, hst6⟩
      have HA7 : Hid (Below w6.heap.size w6 (w6.alloc (.cells (subC s ca cc pa pc ea ec) 26))) := (Below.refl _ _).alloc (Nat.le_refl _) _
      have HJ7 : Hid ((w6.alloc (.cells (subC s ca cc pa pc ea ec) 26)).heap[w6.heap.size]? = some (.cells (subC s ca cc pa pc ea ec) 26 (0, 0))) := heap_alloc_new _ _
      have HL6 : Hid (Below w.heap.size w w6) := HL5.out.trans (only_below hst6 HL5.out.size (by omega))
      have HX6 : Hid (w6.heap[w.heap.size]? = some (.cells (subC s sca scc spa spc sea sec) 26 (0, 0))) := by show _ = _; rw [hst6.block _ (lt_of_block HX5.out) (fun e => by unfold only at e; omega)]; exact HX5.out
      have HW6 : Hid (WrB w6 p ao4 BB) := HW5.out.only hst6 (by omega) (fun b hb => by have := hao4 b hb; omega)
      have HI6 : Hid (IntsAt w6 la l) := hi6
      have HS6 : Hid (SbAt w6 s ca pa ea) := hs6
      have HR6 : Hid (Rd w6 q (textOf (pack BB)) BB.length) := hr6
      clear kd hi6 hs6 hr6 hst6 HL5 HX5 HW5 hao4
      go_upto_region 12 with fail
      generalize hw7 : World.alloc _ _ = w7 at *
      generalize hk7 : w6.heap.size = k7 at *
      have HL7 : Hid (Below w.heap.size w w7) := HL6.out.trans (HA7.out.mono (by rw [← hk7]; exact HL6.out.size))
      have HX7 : Hid (w7.heap[w.heap.size]? = some (.cells (subC s sca scc spa spc sea sec) 26 (0, 0))) := by show _ = _; rw [HA7.out.block _ (by rw [← hk7]; exact lt_of_block HX6.out)]; exact HX6.out
      rw [← hk7] at HA7
      have HW7 : Hid (WrB w7 p ao4 BB) := HW6.out.below HA7.out
      have HI7 : Hid (IntsAt w7 la l) := HI6.out.below HA7.out
      have HS7 : Hid (SbAt w7 s ca pa ea) := HS6.out.below HA7.out
      have HR7 : Hid (Rd w7 q (textOf (pack BB)) BB.length) := HR6.out.below HA7.out
      clear hw7 hk7 HA7 HL6 HX6 HW6 HI6 HS6 HR6
      have ki := ints_same l lo la lc lc2 w7 (HI.out.below HL7.out) HI7.out
      go_wp2_with fail
      refine ki.mono ?_
      rintro e w8 ⟨rfl, n8, hq8⟩
      have hb8 : Below w7.heap.size w7 w8 := by rw [hq8]; exact below_drewN _ _
      have HL8 : Hid (Below w.heap.size w w8) := HL7.out.trans (hb8.mono HL7.out.size)
      have hx8 : w8.heap[w.heap.size]? = some (.cells (subC s sca scc spa spc sea sec) 26 (0, 0)) := by rw [hb8.block _ (lt_of_block HX7.out)]; exact HX7.out
      have hj8 : w8.heap[k7]? = some (.cells (subC s ca cc pa pc ea ec) 26 (0, 0)) := by rw [hb8.block _ (lt_of_block HJ7.out)]; exact HJ7.out
      have HW8 : Hid (WrB w8 p ao4 BB) := HW7.out.below hb8
      have HR8 : Hid (Rd w8 q (textOf (pack BB)) BB.length) := HR7.out.below hb8
      have ks := sub_same s sca scc spa spc sea sec ca cc pa pc ea ec w8 (HS.out.below HL8.out) (HS7.out.below hb8)
      obtain ⟨x0, x1, x2, x3, x4, x5, x6, x7, x8, x9⟩ := sub_cells hx8
      obtain ⟨y0, y1, y2, y3, y4, y5, y6, y7, y8, y9⟩ := sub_cells hj8
      clear ki hq8 hb8 hx8 hj8 HL7 HX7 HJ7 HW7 HI7 HS7 HR7
      go_wp2_with fail
      refine ks.mono ?_
      rintro e w9 ⟨rfl, hb9⟩
      have HL9 : Hid (Below w.heap.size w w9) := HL8.out.trans (hb9.mono HL8.out.size)
      have ka := at_spec q (textOf (pack BB)) BB.length w9 (HR8.out.below hb9)
      have kl := len_spec p w9 ao4 BB (HW8.out.below hb9)
      clear hb9 ks x0 x1 x2 x3 x4 x5 x6 x7 x8 x9 y0 y1 y2 y3 y4 y5 y6 y7 y8 y9 HL8 HW8 HR8
      go_wp2_with fail
      refine ka.mono ?_
      rintro e wz ⟨rfl, hq⟩
      subst hq
      clear ka
      go_wp2_with fail
      refine kl.mono ?_
      rintro e wy ⟨rfl, hq⟩
      subst hq
      clear kl
      go_wp2_with fail
      refine (KAw.out wy).mono ?_
      rintro e w10 ⟨rfl, hb10⟩
      have HL10 : Hid (Below w.heap.size w w10) := HL9.out.trans (hb10.mono HL9.out.size)
      clear hb10
      go_wp2_with fail
      go_ret
      exact ⟨rfl, HL10.out⟩


set_option maxRecDepth 100000 in
theorem lifted (os : Os) (started : os.Started) (H : Type) (enc : TypeId × Value → H) :
    ReturnsInHanded {} Try.checked os 3 .any (Rows.subframeBackSpec.pre6 enc Try.prog Try.f3 Rows.subframeBackRow.domain false) (Rows.subframeBackSpec.post enc Try.prog Try.f3 false true false false) := by
  refine returnsInHanded_of_change_sized (C := Try.checked) own started (by kernel_rfl) Try.func3
    (ChangeSpec.witness6 (enc := enc) (C := Try.checked) false ⟨#[], #[.agg #[.int .i64 0, .int .i64 0, .int .i64 0, .int .i64 0, .int .i64 0, .slice none 0 0, .int .i64 0, .int .i64 0, .slice none 0 0, .slice none 0 0], .int .i64 0, .slice none 0 0], []⟩ 8 (by kernel_rfl) (by kernel_rfl) (by kernel_rfl) (by kernel_rfl)) ?_
  intro W base args ds gs before hval0 hW hcnd0 hsz0 hholds
  have hval : ∀ (j : Nat) t v, Try.f3.params[j]? = some t → args[j]? = some v → Value.okWide Try.prog W .any base t v := hval0
  have hsz : (DataW.weightsEach Try.prog (Try.f3.params.toList ++ Rows.subframeBackSpec.plain.varTypes Try.prog) (ds ++ gs)).all (· ≤ reachBytes) = true := hsz0
  have hW' := hW
  obtain ⟨p, q, hA0, hV, rfl, hfz, hnd⟩ := hW
  have hA : DataW.TrodAll enc Try.prog W 0 (fun _ => true) true Try.f3.params.toList args.toList ds p := hA0
  rw [Try.params3] at hA hval hsz
  obtain ⟨v0, vs0, d0, ds0, p0, q0, hargs, rfl, rfl, h0, r0⟩ := trodAll_cons hA
  obtain ⟨v1, vs1, d1, ds1, p1, q1, rfl, rfl, rfl, h1, r1⟩ := trodAll_cons r0
  obtain ⟨v2, vs2, d2, ds2, p2, q2, rfl, rfl, rfl, h2, r2⟩ := trodAll_cons r1
  obtain ⟨rfl, rfl, rfl⟩ := trodAll_nil r2
  obtain rfl : args = #[v0, v1, v2] := by cases args; simp_all
  obtain ⟨rfl, rfl⟩ := trodVars_none hV
  have hall := List.all_eq_true.1 hsz
  have hw0 : ∀ n ∈ d0.weights Try.prog 26, n ≤ reachBytes := fun n hn => by
    have := hall n (List.mem_append.2 (.inl hn))
    exact of_decide_eq_true this
  have k0 := h0
  have lt0 : ∀ x ∈ p0, x.block < W.heap.size := by obtain ⟨m, hm⟩ := k0; exact DataW.trod_lt m _ _ _ hm
  obtain ⟨x0, ca0, cc0, pa0, pc0, ea0, ec0, rfl, hr0, hc0, hn0⟩ := open_sub (hval 0 26 v0 rfl rfl) h0 hw0
  obtain ⟨x1, rfl, rfl, rfl, i1⟩ := open_int Try.underlying3 (hval 1 3 v1 rfl rfl) h1
  have ib1 := bounds_i64 i1
  have hw2 : ∀ n ∈ d2.weights Try.prog 22, n ≤ reachBytes := fun n hn => by
    have := hall n (List.mem_append.2 (.inr (List.mem_append.2 (.inr (List.mem_append.2 (.inl hn))))))
    exact of_decide_eq_true this
  have k2 := h2
  have lt2 : ∀ x ∈ p2, x.block < W.heap.size := by obtain ⟨m, hm⟩ := k2; exact DataW.trod_lt m _ _ _ hm
  obtain ⟨o2, c2, x2, rfl, hr2, hc2, hn2⟩ := open_list (hval 2 22 v2 rfl rfl) h2 hw2
  clear hA0 hval0
  refine (walk x0 ca0 cc0 pa0 pc0 ea0 ec0 hc0 hn0 x1 ib1.1 ib1.2 x2 o2 c2 hc2 hn2 W hr0 hr2).mono fun e W' ⟨he, bel⟩ => ?_
  subst he
  exact ⟨_, rfl, _, _, _, [], _, [], hW', trodAll_mk1 (shut_bool Try.underlying4 _), (trodAll_cons_mk (Below.trod laidOut (by kernel_rfl) (of_decide_eq_true (by kernel_rfl)) k0 bel lt0) (trodAll_cons_mk (shut_int Try.underlying3 i1) (trodAll_cons_mk (Below.trod laidOut (by kernel_rfl) (of_decide_eq_true (by kernel_rfl)) k2 bel lt2) trodAll_mk0))), rfl, bel.frame _, fun h => by cases h⟩

theorem over : Rows.subframeBackRow.holds Try.pinned (OpenSpec.ofChange Rows.subframeBackSpec) :=
  OpenClaim.holds_of_wide 3 Try.f3 rfl rfl rfl rfl rfl rfl rfl ⟨rfl, rfl, rfl, rfl, rfl⟩ rfl rfl rfl rfl rfl (by kernel_rfl) Try.func3 (by kernel_rfl)
    (of_decide_eq_true (by kernel_rfl)) (by unfold Func.isWrapper; first | (rw [if_pos (by decide +kernel)]; kernel_rfl) | (rw [if_neg (by decide +kernel)]; exact ⟨rfl, rfl⟩))
    (fun os started H enc _ => lifted os started H enc)

end Go.Proofs.Ytkhdkmdiblomhaa.subframeBack
namespace Go.Proofs.Ytkhdkmdiblomhaa
theorem subframeBack_holds : Rows.SubframeBackSaid := subframeBack.over
#print axioms subframeBack_holds
end Go.Proofs.Ytkhdkmdiblomhaa
