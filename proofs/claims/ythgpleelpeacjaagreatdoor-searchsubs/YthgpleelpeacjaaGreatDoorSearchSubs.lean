/-
  SearchSubs: for any samples, any width and any level the program takes the Sub that the document takes, with as many bits, and Size is the document's. No condition (the tables of math/bits and of package frame start as the program lays them).
-/
import Derived.ShutString
import Derived.ChangeOld
import Derived.SizedLaws
import Derived.Carry
import Derived.Test.YthgpleelpeacjaaGreatDoorH37
import Derived.Test.YthgpleelpeacjaaGreatDoorH38
import Derived.Test.YthgpleelpeacjaaGreatDoorH28
namespace Go.Proofs.YthgpleelpeacjaaGreatDoor.searchSubs
open Go.ChangeShapes Go.WideShapes Go.ChangeAt Go.RowKit
open Go.ChangeMaps (open_string shut_string)
set_option linter.unusedSimpArgs false
set_option linter.unusedVariables false
theorem own : ownKnob Tryz.prog.godebug = none := by kernel_rfl
theorem laidOut : laidOutB Tryz.prog = true := by kernel_rfl
set_option maxRecDepth 20000 in
set_option maxHeartbeats 800000 in
theorem walk (l : List Int) (lo : Option Addr) (lc : Nat) (hlc : l.length ≤ lc) (hl0 : lo = none → lc = 0) (v : Int) (v1 : -9223372036854775808 ≤ v) (v2 : v ≤ 9223372036854775807) (lv : Int) (lv1 : -9223372036854775808 ≤ lv) (lv2 : lv ≤ 9223372036854775807) (w : World) (rl : IntsAt w lo l) (hT : Lay12 w) :
  Calls Tryz.prog 3 #[.slice lo l.length lc, .int .i64 v, .int .i64 lv] w fun e w' => e = .returned (.bool true) ∧ Below w.heap.size w w' := by
 have HLay : Hid (Lay12 w) := hT
 have KAw : Hid (∀ wx, Below w.heap.size w wx → Calls Tryz.prog 7 #[] wx fun e w' => e = .returned (.bool true) ∧ Below wx.heap.size wx w') := fun wx hb => awake12 wx (hT.1.below hb) (hT.2.below hb)
 have hlen := rl.len
 by_cases h300 : 300 < l.length
 ·have hd0 : decide ((300 : Int) < (l.length : Int)) = true := decide_eq_true (by omega)
  have HB : Hid (Below w.heap.size w w) := Below.refl _ _
  clear rl hT
  go_enter Tryz.func3, Tryz.ntmps3
  go_wp2_with fail
  refine (KAw.out w HB.out).mono ?_
  rintro en wz ⟨rfl, hbz⟩
  have HBZ : Hid (Below w.heap.size w wz) := HB.out.trans (hbz.mono HB.out.size)
  clear hbz
  go_wp2_with fail
  go_ret
  exact ⟨rfl, HBZ.out⟩
 have hd0 : decide ((300 : Int) < (l.length : Int)) = false := decide_eq_false (by omega)
 obtain ⟨Q, NN, K1, K2⟩ : ∃ (Q : Sb) (NN : Int), Hid (∀ wx, Below w.heap.size w wx → Calls Tryz.prog 8 #[.slice lo l.length lc, .int .i64 v, .int .i64 lv] wx fun e w' => ∃ ca cc pa pc ea ec, e = .returned (.tuple #[subV Q ca cc pa pc ea ec, .int .i64 NN]) ∧ SbAt w' Q ca pa ea ∧ Below wx.heap.size wx w') ∧ Hid (∀ wx, Below w.heap.size w wx → Calls Tryz.prog 9 #[.slice lo l.length lc, .int .i64 v, .int .i64 lv] wx fun e w' => ∃ ca cc pa pc ea ec, e = .returned (.tuple #[subV Q ca cc pa pc ea ec, .int .i64 NN]) ∧ SbAt w' Q ca pa ea ∧ Below wx.heap.size wx w') := by
  by_cases hok : ((0 ≤ lv ∧ lv ≤ 2) ∧ (1 ≤ v ∧ v ≤ 33) ∧ (1 ≤ l.length ∧ l.length ≤ 65535) ∧ ∀ x ∈ l, sigE x v = 0)
  ·obtain ⟨hlv, hv, hln, hfit⟩ := hok
   obtain ⟨⟨Q, n⟩, hs⟩ := sbR_some lv v l
   refine ⟨Q, (n : Int), fun wx hb => ?_, fun wx hb => ?_⟩
   ·refine (z_Sub_yes l lo lc v lv hlv hv hln.1 hln.2 hfit wx (hT.1.below hb) (rl.below hb)).mono fun e w' hh => ?_
    obtain ⟨q, m, ca, cc, pa, pc, ea, ec, h1, h2, h3, h4⟩ := hh
    rw [hs] at h1
    cases h1
    exact ⟨ca, cc, pa, pc, ea, ec, h2, h3, h4⟩
   ·refine (xsub12 l lo lc v lv hlv hv hln.1 hln.2 hfit wx (rl.below hb)).mono fun e w' hh => ?_
    obtain ⟨q, m, ca, cc, pa, pc, ea, ec, h1, h2, h3, h4⟩ := hh
    rw [hs] at h1
    cases h1
    exact ⟨ca, cc, pa, pc, ea, ec, h2, h3, h4⟩
  ·have hz : ∀ X : World, SbAt X (⟨0, 0, 0, 0, 0, [], R00⟩ : Sb) none none none := fun X => ⟨IntsAt.nil _, ⟨IntsAt.nil _, IntsAt.nil _, by decide, by decide, by decide, by decide⟩, by decide, by decide, by decide, by decide, by decide⟩
   refine ⟨(⟨0, 0, 0, 0, 0, [], R00⟩ : Sb), -1, fun wx hb => ?_, fun wx hb => ?_⟩
   ·exact (z_Sub_no l lo lc v lv hok wx (rl.below hb)).mono fun e w' hh => ⟨none, 0, none, 0, none, 0, hh.1, hz w', hh.2⟩
   ·exact (xsub12_no l lo lc v lv hok wx (rl.below hb)).mono fun e w' hh => ⟨none, 0, none, 0, none, 0, hh.1, hz w', hh.2⟩
 clear rl hT
 go_enter Tryz.func3, Tryz.ntmps3
 go_wp2_with fail
 refine (K1.out w (Below.refl _ _)).mono ?_
 rintro en w1 ⟨ga, gb, gc, gd, ge, gf, rfl, hs1, hb1⟩
 have HB1 : Hid (Below w.heap.size w (w1.alloc (.cells (subC Q ga gb gc gd ge gf) 27))) := hb1.alloc hb1.size _
 have HS1 : Hid (SbAt (w1.alloc (.cells (subC Q ga gb gc gd ge gf) 27)) Q ga gc ge) := hs1.below ((Below.refl _ _).alloc (Nat.le_refl _) _)
 have HX1 : Hid ((w1.alloc (.cells (subC Q ga gb gc gd ge gf) 27)).heap[w1.heap.size]? = some (.cells (subC Q ga gb gc gd ge gf) 27 (0, 0))) := heap_alloc_new _ _
 clear hs1 hb1 K1
 go_upto_region 4 with fail
 generalize hw2 : World.alloc _ _ = w2 at *
 generalize hk1 : w1.heap.size = k1 at *
 clear hw2 hk1
 go_wp2_with fail
 refine (K2.out w2 HB1.out).mono ?_
 rintro en w3 ⟨ha, hb, hc, hd, he, hf, rfl, hs3, hb3⟩
 have hb4 : Below w2.heap.size w2 (w3.alloc (.cells (subC Q ha hb hc hd he hf) 27)) := hb3.alloc hb3.size _
 have HB4 : Hid (Below w.heap.size w (w3.alloc (.cells (subC Q ha hb hc hd he hf) 27))) := HB1.out.trans (hb4.mono HB1.out.size)
 have HS4 : Hid (SbAt (w3.alloc (.cells (subC Q ha hb hc hd he hf) 27)) Q ha hc he) := hs3.below ((Below.refl _ _).alloc (Nat.le_refl _) _)
 have HT4 : Hid (SbAt (w3.alloc (.cells (subC Q ha hb hc hd he hf) 27)) Q ga gc ge) := HS1.out.below hb4
 have HX4 : Hid ((w3.alloc (.cells (subC Q ha hb hc hd he hf) 27)).heap[k1]? = some (.cells (subC Q ga gb gc gd ge gf) 27 (0, 0))) := by show _ = _; rw [hb4.block _ (lt_of_block HX1.out)]; exact HX1.out
 have HY4 : Hid ((w3.alloc (.cells (subC Q ha hb hc hd he hf) 27)).heap[w3.heap.size]? = some (.cells (subC Q ha hb hc hd he hf) 27 (0, 0))) := heap_alloc_new _ _
 clear hs3 hb3 hb4 K2 HB1 HS1 HX1
 go_upto_region 5 with fail
 generalize hw4 : World.alloc _ _ = w4 at *
 generalize hk2 : w3.heap.size = k2 at *
 clear hw4 hk2
 obtain ⟨x0, x1, x2, x3, x4, x5, x6, x7, x8, x9⟩ := sub_cells HX4.out
 obtain ⟨y0, y1, y2, y3, y4, y5, y6, y7, y8, y9⟩ := sub_cells HY4.out
 have ks := sub_same Q ga gb gc gd ge gf ha hb hc hd he hf w4 HT4.out HS4.out
 go_wp2_with fail
 refine ks.mono ?_
 rintro en w5 ⟨rfl, hb5⟩
 have HB5 : Hid (Below w.heap.size w w5) := HB4.out.trans (hb5.mono HB4.out.size)
 clear hb5 ks HB4 HX4 HY4 HS4 HT4 x0 x1 x2 x3 x4 x5 x6 x7 x8 x9 y0 y1 y2 y3 y4 y5 y6 y7 y8 y9
 go_wp2_with fail
 refine (z_Size lv w5).mono ?_
 rintro en w6 ⟨rfl, hw6⟩
 subst hw6
 go_wp2_with fail
 refine (xsize12 lv w6).mono ?_
 rintro en w7 ⟨rfl, hw7⟩
 subst hw7
 generalize s12N lv = sn at *
 go_wp2_with fail
 refine (KAw.out w7 HB5.out).mono ?_
 rintro en wz ⟨rfl, hbz⟩
 have HBZ : Hid (Below w.heap.size w wz) := HB5.out.trans (hbz.mono HB5.out.size)
 clear hbz
 go_wp2_with fail
 go_ret
 exact ⟨rfl, HBZ.out⟩
theorem door_met (os : Os) (args : Array Value) : laidMetH Tryz.prog Rows.searchSubsRow.laid ((World.doorLaid Tryz.prog 400 os).forCall (fun _ _ => 0) ⟨#[], args, []⟩).memory :=
 laidMetH_of_parts3 (fuel := 8) (laidMet_of_run' 8 (by kernel_rfl) (by kernel_rfl)) (by kernel_rfl) (by kernel_rfl)
set_option maxRecDepth 100000 in
theorem lifted (os : Os) (started : os.Started) (H : Type) (enc : TypeId × Value → H) :
  ReturnsInHanded {} Tryz.checked os 3 .any (fun w args => (Rows.searchSubsSpec.pre enc Tryz.prog Tryz.f3 [] false w args ∧ laidMetH Tryz.prog Rows.searchSubsRow.laid w) ∧ sizedMet enc Tryz.prog Tryz.f3 (OpenSpec.ofChange Rows.searchSubsSpec) false w args)
   (Rows.searchSubsSpec.post enc Tryz.prog Tryz.f3 false true false false) := by
 refine returnsInHanded_of_change_and (C := Tryz.checked) (X := fun w _ => laidMetH Tryz.prog Rows.searchSubsRow.laid w) (fun _ _ _ hh h => h.of_heap hh) own started (by kernel_rfl) Tryz.func3
  (ChangeSpec.witness_shaped (enc := enc) (C := Tryz.checked) (os := os) (X := fun w _ => laidMetH Tryz.prog Rows.searchSubsRow.laid w) false (World.doorLaid Tryz.prog 400 os) #[.slice none 0 0, .int .i64 0, .int .i64 0] 8 rfl (World.shaped_of_RefB (by kernel_rfl) (by kernel_rfl)) (by kernel_rfl) (by kernel_rfl) (by kernel_rfl) (door_met os _)) ?_
 intro W base args ds gs before hval0 hW _ hsz0 hL _
 have hval : ∀ (j : Nat) t v, Tryz.f3.params[j]? = some t → args[j]? = some v → Value.okWide Tryz.prog W .any base t v := hval0
 have hsz : (DataW.weightsEach Tryz.prog (Tryz.f3.params.toList ++ Rows.searchSubsSpec.plain.varTypes Tryz.prog) (ds ++ gs)).all (· ≤ reachBytes) = true := hsz0
 have hW' := hW
 obtain ⟨p, q, hA0, hV, rfl, hfz, hnd⟩ := hW
 have hA : DataW.TrodAll enc Tryz.prog W 0 (fun _ => true) true Tryz.f3.params.toList args.toList ds p := hA0
 rw [Tryz.params3] at hA hval hsz
 obtain ⟨v0, vs0, d0, ds0, p0, q0, hargs, rfl, rfl, h0, r0⟩ := trodAll_cons hA
 obtain ⟨v1, vs1, d1, ds1, p1, q1, rfl, rfl, rfl, h1, r1⟩ := trodAll_cons r0
 obtain ⟨v2, vs2, d2, ds2, p2, q2, rfl, rfl, rfl, h2, r2⟩ := trodAll_cons r1
 obtain ⟨rfl, rfl, rfl⟩ := trodAll_nil r2
 obtain rfl : args = #[v0, v1, v2] := by cases args; simp_all
 obtain ⟨rfl, rfl⟩ := trodVars_none hV
 have hall := List.all_eq_true.1 hsz
 have hw0 : ∀ n ∈ d0.weights Tryz.prog 22, n ≤ reachBytes := fun n hn => by
  have := hall n (List.mem_append.2 (.inl hn))
  exact of_decide_eq_true this
 have k0 := h0
 have lt0 : ∀ x ∈ p0, x.block < W.heap.size := by obtain ⟨m, hm⟩ := k0; exact DataW.trod_lt m _ _ _ hm
 obtain ⟨o0, c0, x0, rfl, hr0, hc0, hn0⟩ := open_list (hval 0 22 v0 rfl rfl) h0 hw0
 obtain ⟨x1, rfl, rfl, rfl, i1⟩ := open_int Tryz.underlying3 (hval 1 3 v1 rfl rfl) h1
 have ib1 := bounds_i64 i1
 obtain ⟨x2, rfl, rfl, rfl, i2⟩ := open_int Tryz.underlying3 (hval 2 3 v2 rfl rfl) h2
 have ib2 := bounds_i64 i2
 have hT : Lay12 W := lay12_ofS hL
 clear hA0 hval0
 refine (walk x0 o0 c0 hc0 hn0 x1 ib1.1 ib1.2 x2 ib2.1 ib2.2 W hr0 hT).mono fun e W' ⟨he, bel⟩ => ?_
 subst he
 exact ⟨_, rfl, _, _, _, [], _, [], hW', trodAll_mk1 (shut_bool Tryz.underlying4 _), (trodAll_cons_mk (Below.trod laidOut (by kernel_rfl) (of_decide_eq_true (by kernel_rfl)) k0 bel lt0) (trodAll_cons_mk (shut_int Tryz.underlying3 i1) (trodAll_cons_mk (shut_int Tryz.underlying3 i2) trodAll_mk0))), rfl, bel.frame _, fun h => by cases h⟩
theorem said : Rows.SearchSubsSaid :=
 OpenClaim.holds_of_wide 3 Tryz.f3 rfl rfl rfl rfl rfl rfl rfl ⟨rfl, rfl, rfl, rfl, rfl⟩ rfl rfl rfl rfl rfl (by kernel_rfl) Tryz.func3 (by kernel_rfl)
  (of_decide_eq_true (by kernel_rfl)) (by unfold Func.isWrapper; first | (rw [if_pos (by decide +kernel)]; kernel_rfl) | (rw [if_neg (by decide +kernel)]; exact ⟨rfl, rfl⟩))
  (fun os started H enc _ => lifted os started H enc)
theorem plain (f : FuncId) (fn : Func) (hf : Tryz.pinned.checked.prog.funcNamed Rows.searchSubsRow.func = some f) (hfn : Tryz.pinned.checked.prog.funcs[f]? = some fn) :
  false = Tryz.pinned.checked.prog.looks [] ∧ ∀ (j : Nat) t, fn.params[j]? = some t → Tryz.pinned.checked.prog.wantsStandIn t = false := by
 obtain rfl : f = 3 := Option.some.inj ((show Tryz.prog.funcNamed Rows.searchSubsRow.func = some 3 by kernel_rfl).symm.trans hf) |>.symm
 obtain rfl : fn = Tryz.f3 := (Option.some.inj (Tryz.func3.symm.trans hfn)).symm
 refine ⟨by kernel_rfl, fun j t ht => ?_⟩
 rw [Tryz.params3] at ht
 have hm := Array.mem_of_getElem? ht
 simp at hm
 rcases hm with rfl | rfl
 ·exact (show Tryz.prog.wantsStandIn 22 = false by kernel_rfl)
 ·exact (show Tryz.prog.wantsStandIn 3 = false by kernel_rfl)
theorem card : Rows.SearchSubsCardSaid :=
 Claim7.holds_tied_plain_at .later [] _ _ _ _ said (fun _ h => by cases h) (by kernel_rfl) (fun _ h => by cases h) searchSubs_row_tie rfl ⟨rfl, rfl⟩ (by kernel_rfl) rfl plain (by kernel_rfl)
end Go.Proofs.YthgpleelpeacjaaGreatDoor.searchSubs
namespace Go.Proofs.YthgpleelpeacjaaGreatDoor
theorem searchSubs_card : Rows.SearchSubsCardSaid := searchSubs.card
#print axioms searchSubs_card
end Go.Proofs.YthgpleelpeacjaaGreatDoor
