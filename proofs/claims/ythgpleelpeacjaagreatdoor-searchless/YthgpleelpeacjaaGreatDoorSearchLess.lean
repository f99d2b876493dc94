/-
  SearchLess: of any samples and any width a higher level never takes more bits, and the Sub that is taken has as many bits as it says; where the program has none, the document has none. No condition (the tables of math/bits and of package frame start as the program lays them).
-/
import Derived.ShutString
import Derived.ChangeOld
import Derived.SizedLaws
import Derived.Carry
import Derived.Test.YthgpleelpeacjaaGreatDoorE31
namespace Go.Proofs.YthgpleelpeacjaaGreatDoor.searchLess
open Go.ChangeShapes Go.WideShapes Go.ChangeAt Go.RowKit
open Go.ChangeMaps (open_string shut_string)
set_option linter.unusedSimpArgs false
set_option linter.unusedVariables false
theorem own : ownKnob Tryz.prog.godebug = none := by kernel_rfl
theorem laidOut : laidOutB Tryz.prog = true := by kernel_rfl
set_option maxRecDepth 20000 in
set_option maxHeartbeats 800000 in
theorem walk (l : List Int) (lo : Option Addr) (lc : Nat) (hlc : l.length ≤ lc) (hl0 : lo = none → lc = 0) (v : Int) (v1 : -9223372036854775808 ≤ v) (v2 : v ≤ 9223372036854775807) (w : World) (rl : IntsAt w lo l) (hT : Lay12 w) :
  Calls Tryz.prog 6 #[.slice lo l.length lc, .int .i64 v] w fun e w' => e = .returned (.bool true) ∧ Below w.heap.size w w' := by
 have HLay : Hid (Lay12 w) := hT
 have KAw : Hid (∀ wx, Below w.heap.size w wx → Calls Tryz.prog 7 #[] wx fun e w' => e = .returned (.bool true) ∧ Below wx.heap.size wx w') := fun wx hb => awake12 wx (hT.1.below hb) (hT.2.below hb)
 have hlen := rl.len
 clear hT
 by_cases h300 : 300 < l.length
 ·have hd0 : decide ((300 : Int) < (l.length : Int)) = true := decide_eq_true (by omega)
  have HB : Hid (Below w.heap.size w w) := Below.refl _ _
  clear rl
  go_enter Tryz.func6, Tryz.ntmps6
  go_wp2_with fail
  refine (KAw.out w HB.out).mono ?_
  rintro en wz ⟨rfl, hbz⟩
  have HBZ : Hid (Below w.heap.size w wz) := HB.out.trans (hbz.mono HB.out.size)
  clear hbz
  go_wp2_with fail
  go_ret
  exact ⟨rfl, HBZ.out⟩
 have hd0 : decide ((300 : Int) < (l.length : Int)) = false := decide_eq_false (by omega)
 by_cases hok : ((1 ≤ v ∧ v ≤ 33) ∧ (1 ≤ l.length ∧ l.length ≤ 65535) ∧ ∀ x ∈ l, sigE x v = 0)
 case neg =>
  have KS : Hid (∀ wx, Below w.heap.size w wx → Calls Tryz.prog 8 #[.slice lo l.length lc, .int .i64 v, .int .i64 0] wx fun e w' => e = .returned (.tuple #[.agg (subC ⟨0, 0, 0, 0, 0, [], R00⟩ none 0 none 0 none 0), .int .i64 (-1)]) ∧ Below wx.heap.size wx w') := fun wx hb => z_Sub_no l lo lc v 0 (fun h => hok h.2) wx (rl.below hb)
  have KX : Hid (∀ wx, Below w.heap.size w wx → Calls Tryz.prog 21 #[.slice lo l.length lc, .int .i64 v] wx fun e w' => e = .returned (.bool true) ∧ Below wx.heap.size wx w') := fun wx hb => none12 l lo lc v (fun h => hok h.2) wx (rl.below hb)
  clear hok rl
  go_enter Tryz.func6, Tryz.ntmps6
  go_wp2_with fail
  go_loopw [5, 6] (fun s5 s6 wr => s5 = .int .i64 (-1) ∧ s6 = .int .i64 0 ∧ wr = w) (fun _ _ _ => 0)
  case atStart => exact ⟨rfl, rfl, rfl⟩
  case round =>
   obtain ⟨rfl, rfl, hwr⟩ := hrel
   subst hwr
   go_wp2_with fail
   refine (KS.out wr (Below.refl _ _)).mono ?_
   rintro en w1 ⟨rfl, hb1⟩
   have HB1 : Hid (Below wr.heap.size wr (w1.alloc (.cells (subC ⟨0, 0, 0, 0, 0, [], R00⟩ none 0 none 0 none 0) 27))) := hb1.alloc hb1.size _
   clear hb1
   go_upto_region 8 with fail
   generalize hw2 : World.alloc _ _ = w2 at *
   clear hw2
   go_wp2_with fail
   refine (KX.out w2 HB1.out).mono ?_
   rintro en w3 ⟨rfl, hb3⟩
   have HB3 : Hid (Below wr.heap.size wr w3) := HB1.out.trans (hb3.mono HB1.out.size)
   clear hb3 HB1
   go_wp2_with fail
   refine (KAw.out w3 HB3.out).mono ?_
   rintro en wz ⟨rfl, hbz⟩
   have HBZ : Hid (Below wr.heap.size wr wz) := HB3.out.trans (hbz.mono HB3.out.size)
   clear hbz
   go_wp2_with fail
   go_ret
   exact ⟨rfl, HBZ.out⟩
 case pos =>
  obtain ⟨hv, hln, hfit⟩ := hok
  obtain ⟨a0, s0⟩ := sbR_some 0 v l
  obtain ⟨a1, s1⟩ := sbR_some 1 v l
  obtain ⟨a2, s2⟩ := sbR_some 2 v l
  have le1 := sbR_less 0 1 v l _ (cnL_1 _) a0 a1 s0 s1
  have le2 := sbR_less 1 2 v l _ (cnL_2 _) a1 a2 s1 s2
  obtain ⟨NB, LI, n0, n1, n2, i0, i1⟩ : ∃ (NB : Nat → Nat) (LI : Nat → Int), NB 0 = a0.2 ∧ NB 1 = a1.2 ∧ NB 2 = a2.2 ∧ LI 0 = -1 ∧ ∀ k, LI (k + 1) = (NB k : Int) := ⟨fun k => if k = 0 then a0.2 else if k = 1 then a1.2 else a2.2, fun k => if k = 0 then -1 else ((if k - 1 = 0 then a0.2 else if k - 1 = 1 then a1.2 else a2.2 : Nat) : Int), rfl, rfl, rfl, rfl, fun k => rfl⟩
  have HNX : Hid (∀ k, LI (k + 1) = (NB k : Int)) := i1
  have HL0 : Hid (LI 0 = -1) := i0
  have HLT : Hid (∀ k, k ≤ 2 → (LI k < 0 ∨ (NB k : Int) ≤ LI k) ∧ -9223372036854775808 ≤ LI k ∧ LI k ≤ 9223372036854775807) := fun k hk => by
   have b0 := sb_small 0 v l a0.1 a0.2 s0 hv hln.1 hln.2 hfit
   have b1 := sb_small 1 v l a1.1 a1.2 s1 hv hln.1 hln.2 hfit
   have j1 := i1 0
   have j2 := i1 1
   rcases (show k = 0 ∨ k = 1 ∨ k = 2 by omega) with rfl | rfl | rfl
   ·rw [i0]; exact ⟨Or.inl (by decide), by decide, by decide⟩
   ·rw [j1]; exact ⟨Or.inr (by omega), by omega, by omega⟩
   ·rw [j2]; exact ⟨Or.inr (by omega), by omega, by omega⟩
  have HSB : Hid (∀ k : Nat, k ≤ 2 → ∀ q n, sbR (k : Int) v l = some (q, n) → n = NB k ∧ okS q v l ∧ n = (subB q v l).length ∧ n ≤ 100000000) := fun k hk q n h => by
   obtain ⟨o1, o2, o3⟩ := sbR_ok (k : Int) v l q n h hv hln.1 hln.2 hfit
   refine ⟨?_, ⟨o1, o2⟩, o3, sb_small (k : Int) v l q n h hv hln.1 hln.2 hfit⟩
   rcases (show k = 0 ∨ k = 1 ∨ k = 2 by omega) with rfl | rfl | rfl
   ·have h' : sbR 0 v l = some (q, n) := h
    rw [s0] at h'; cases h'; exact n0.symm
   ·have h' : sbR 1 v l = some (q, n) := h
    rw [s1] at h'; cases h'; exact n1.symm
   ·have h' : sbR 2 v l = some (q, n) := h
    rw [s2] at h'; cases h'; exact n2.symm
  have KS : Hid (∀ k : Nat, k ≤ 2 → ∀ wx, Below w.heap.size w wx → Calls Tryz.prog 8 #[.slice lo l.length lc, .int .i64 v, .int .i64 (k : Int)] wx (SubP (k : Int) v l wx)) := fun k hk wx hb => z_Sub_yes l lo lc v (k : Int) (by omega) hv hln.1 hln.2 hfit wx (HLay.out.1.below hb) (rl.below hb)
  have HRL : Hid (∀ wx, Below w.heap.size w wx → IntsAt wx lo l) := fun wx hb => rl.below hb
  clear hv hln hfit s0 s1 s2 le1 le2 n0 n1 n2 i0 i1 rl
  go_enter Tryz.func6, Tryz.ntmps6
  go_wp2_with fail
  go_loopw [5, 6] (fun s5 s6 wr => ∃ k : Nat, k ≤ 3 ∧ s6 = .int .i64 (k : Int) ∧ s5 = .int .i64 (LI k) ∧ Below w.heap.size w wr) (fun _ s6 _ => 3 - (intOf s6).toNat)
  case atStart => exact ⟨0, by omega, rfl, by rw [HL0.out], Below.refl _ _⟩
  case round =>
   obtain ⟨k, hk, rfl, rfl, hbw⟩ := hrel
   have HBW : Hid (Below w.heap.size w wr) := hbw
   clear hbw
   by_cases hk2 : k ≤ 2
   ·obtain ⟨hlt, hli1, hli2⟩ := HLT.out k hk2
    have HNI : Hid (LI (k + 1) = (NB k : Int)) := HNX.out k
    have hdk : decide ((k : Int) ≤ 2) = true := decide_eq_true (by omega)
    go_wp2_with fail
    refine (KS.out k hk2 wr HBW.out).mono ?_
    rintro en w1 ⟨q, n, ca, cc, pa, pc, ea, ec, hs, rfl, hsb, hb1⟩
    obtain ⟨e1, e2, e3, e4⟩ := HSB.out k hk2 q n hs
    have hb2 : Below wr.heap.size wr (w1.alloc (.cells (subC q ca cc pa pc ea ec) 27)) := hb1.alloc hb1.size _
    have HB2 : Hid (Below w.heap.size w (w1.alloc (.cells (subC q ca cc pa pc ea ec) 27))) := HBW.out.trans (hb2.mono HBW.out.size)
    have HS2 : Hid (SbAt (w1.alloc (.cells (subC q ca cc pa pc ea ec) 27)) q ca pa ea) := hsb.below ((Below.refl _ _).alloc (Nat.le_refl _) _)
    have HX2 : Hid ((w1.alloc (.cells (subC q ca cc pa pc ea ec) 27)).heap[w1.heap.size]? = some (.cells (subC q ca cc pa pc ea ec) 27 (0, 0))) := heap_alloc_new _ _
    have HE1 : Hid (n = NB k) := e1
    have HOK : Hid (okS q v l) := e2
    have HE3 : Hid ((subB q v l).length = n) := e3.symm
    have hlt2 : LI k < 0 ∨ (n : Int) ≤ LI k := by rw [e1]; exact hlt
    clear hs hsb hb1 hb2 e1 e2 e3 hlt HBW
    generalize LI k = lk at *
    go_upto_region 8 with fail
    generalize hw2 : World.alloc _ _ = w2 at *
    generalize hgs : w1.heap.size = gs at *
    clear hw2 hgs
    have hn0 : ¬ (n : Int) < 0 := by omega
    have kn := new_spec w2
    go_wp2_with fail
    refine kn.mono ?_
    rintro en w3 ⟨rfl, hw3, hq3⟩
    have hb3 : Below w2.heap.size w2 w3 := by rw [hq3]; exact ((Below.refl _ _).alloc (Nat.le_refl _) _)
    have HB3 : Hid (Below w.heap.size w w3) := HB2.out.trans (hb3.mono HB2.out.size)
    have HX3 : Hid (w3.heap[gs]? = some (.cells (subC q ca cc pa pc ea ec) 27 (0, 0))) := by show _ = _; rw [hb3.block _ (lt_of_block HX2.out)]; exact HX2.out
    have KE := enc_main q v l ca cc pa pc ea ec lo lc w2.heap.size none [] Bits01.nil (by decide) w3 (HS2.out.below hb3) (HRL.out w3 HB3.out) hw3 HOK.out
    have hz := HB2.out.size
    clear kn hq3 hb3 HX2 HS2 hw3
    generalize hpp : w2.heap.size = pp at *
    clear hpp
    obtain ⟨x0, x1, x2, x3, x4, x5, x6, x7, x8, x9⟩ := sub_cells HX3.out
    go_wp2_with fail
    refine KE.mono ?_
    rintro en w4 ⟨rfl, ao4, hw4, hs4, _⟩
    have HB4 : Hid (Below w.heap.size w w4) := HB3.out.trans (foot_below hs4 HB3.out.size hz (fun b hb => by cases hb))
    have kl := len_spec pp w4 ao4 ([] ++ subB q v l) hw4
    rw [List.nil_append, HE3.out] at kl
    clear KE hw4 hs4 x0 x1 x2 x3 x4 x5 x6 x7 x8 x9 HX3
    go_wp2_with fail
    refine kl.mono ?_
    rintro en w5 ⟨rfl, hw5⟩
    subst hw5
    clear kl
    by_cases hneg : lk < 0
    ·have hd1 : decide ((0 : Int) ≤ lk) = false := decide_eq_false (by omega)
     clear hlt2
     go_wp2_with fail
     go_roundw
     case rel => exact ⟨k + 1, by omega, by go_num, by rw [HNI.out, ← HE1.out], HB4.out⟩
     case measure => simp [intOf]; omega
    ·have hd1 : decide ((0 : Int) ≤ lk) = true := decide_eq_true (by omega)
     have hd2 : decide (lk < (n : Int)) = false := decide_eq_false (by omega)
     have hd3 : ¬ lk < (n : Int) := by omega
     clear hlt2
     go_wp2_with fail
     go_roundw
     case rel => exact ⟨k + 1, by omega, by go_num, by rw [HNI.out, ← HE1.out], HB4.out⟩
     case measure => simp [intOf]; omega
   ·have hdk : decide ((k : Int) ≤ 2) = false := decide_eq_false (by omega)
    go_wp2_with fail
    refine (KAw.out wr HBW.out).mono ?_
    rintro en wz ⟨rfl, hbz⟩
    have HBZ : Hid (Below w.heap.size w wz) := HBW.out.trans (hbz.mono HBW.out.size)
    clear hbz
    go_wp2_with fail
    go_ret
    exact ⟨rfl, HBZ.out⟩
theorem door_met (os : Os) (args : Array Value) : laidMetH Tryz.prog Rows.searchLessRow.laid ((World.doorLaid Tryz.prog 400 os).forCall (fun _ _ => 0) ⟨#[], args, []⟩).memory :=
 laidMetH_of_parts3 (fuel := 8) (laidMet_of_run' 8 (by kernel_rfl) (by kernel_rfl)) (by kernel_rfl) (by kernel_rfl)
set_option maxRecDepth 100000 in
theorem lifted (os : Os) (started : os.Started) (H : Type) (enc : TypeId × Value → H) :
  ReturnsInHanded {} Tryz.checked os 6 .any (fun w args => (Rows.searchLessSpec.pre enc Tryz.prog Tryz.f6 [] false w args ∧ laidMetH Tryz.prog Rows.searchLessRow.laid w) ∧ sizedMet enc Tryz.prog Tryz.f6 (OpenSpec.ofChange Rows.searchLessSpec) false w args)
   (Rows.searchLessSpec.post enc Tryz.prog Tryz.f6 false true false false) := by
 refine returnsInHanded_of_change_and (C := Tryz.checked) (X := fun w _ => laidMetH Tryz.prog Rows.searchLessRow.laid w) (fun _ _ _ hh h => h.of_heap hh) own started (by kernel_rfl) Tryz.func6
  (ChangeSpec.witness_shaped (enc := enc) (C := Tryz.checked) (os := os) (X := fun w _ => laidMetH Tryz.prog Rows.searchLessRow.laid w) false (World.doorLaid Tryz.prog 400 os) #[.slice none 0 0, .int .i64 0] 8 rfl (World.shaped_of_RefB (by kernel_rfl) (by kernel_rfl)) (by kernel_rfl) (by kernel_rfl) (by kernel_rfl) (door_met os _)) ?_
 intro W base args ds gs before hval0 hW _ hsz0 hL _
 have hval : ∀ (j : Nat) t v, Tryz.f6.params[j]? = some t → args[j]? = some v → Value.okWide Tryz.prog W .any base t v := hval0
 have hsz : (DataW.weightsEach Tryz.prog (Tryz.f6.params.toList ++ Rows.searchLessSpec.plain.varTypes Tryz.prog) (ds ++ gs)).all (· ≤ reachBytes) = true := hsz0
 have hW' := hW
 obtain ⟨p, q, hA0, hV, rfl, hfz, hnd⟩ := hW
 have hA : DataW.TrodAll enc Tryz.prog W 0 (fun _ => true) true Tryz.f6.params.toList args.toList ds p := hA0
 rw [Tryz.params6] at hA hval hsz
 obtain ⟨v0, vs0, d0, ds0, p0, q0, hargs, rfl, rfl, h0, r0⟩ := trodAll_cons hA
 obtain ⟨v1, vs1, d1, ds1, p1, q1, rfl, rfl, rfl, h1, r1⟩ := trodAll_cons r0
 obtain ⟨rfl, rfl, rfl⟩ := trodAll_nil r1
 obtain rfl : args = #[v0, v1] := by cases args; simp_all
 obtain ⟨rfl, rfl⟩ := trodVars_none hV
 have hall := List.all_eq_true.1 hsz
 have hw0 : ∀ n ∈ d0.weights Tryz.prog 22, n ≤ reachBytes := fun n hn => by
  have := hall n (List.mem_append.2 (.inl hn))
  exact of_decide_eq_true this
 have k0 := h0
 have lt0 : ∀ x ∈ p0, x.block < W.heap.size := by obtain ⟨m, hm⟩ := k0; exact DataW.trod_lt m _ _ _ hm
 obtain ⟨o0, c0, x0, rfl, hr0, hc0, hn0⟩ := open_list (hval 0 22 v0 rfl rfl) h0 hw0
 obtain ⟨x1, rfl, rfl, rfl, i1⟩ := open_int Tryz.underlying3 (hval 1 3 v1 rfl rfl) h1
 have ib1 := bounds_i64 i1
 have hT : Lay12 W := lay12_of hL
 clear hA0 hval0
 refine (walk x0 o0 c0 hc0 hn0 x1 ib1.1 ib1.2 W hr0 hT).mono fun e W' ⟨he, bel⟩ => ?_
 subst he
 exact ⟨_, rfl, _, _, _, [], _, [], hW', trodAll_mk1 (shut_bool Tryz.underlying4 _), (trodAll_cons_mk (Below.trod laidOut (by kernel_rfl) (of_decide_eq_true (by kernel_rfl)) k0 bel lt0) (trodAll_cons_mk (shut_int Tryz.underlying3 i1) trodAll_mk0)), rfl, bel.frame _, fun h => by cases h⟩
theorem said : Rows.SearchLessSaid :=
 OpenClaim.holds_of_wide 6 Tryz.f6 rfl rfl rfl rfl rfl rfl rfl ⟨rfl, rfl, rfl, rfl, rfl⟩ rfl rfl rfl rfl rfl (by kernel_rfl) Tryz.func6 (by kernel_rfl)
  (of_decide_eq_true (by kernel_rfl)) (by unfold Func.isWrapper; first | (rw [if_pos (by decide +kernel)]; kernel_rfl) | (rw [if_neg (by decide +kernel)]; exact ⟨rfl, rfl⟩))
  (fun os started H enc _ => lifted os started H enc)
theorem plain (f : FuncId) (fn : Func) (hf : Tryz.pinned.checked.prog.funcNamed Rows.searchLessRow.func = some f) (hfn : Tryz.pinned.checked.prog.funcs[f]? = some fn) :
  false = Tryz.pinned.checked.prog.looks [] ∧ ∀ (j : Nat) t, fn.params[j]? = some t → Tryz.pinned.checked.prog.wantsStandIn t = false := by
 obtain rfl : f = 6 := Option.some.inj ((show Tryz.prog.funcNamed Rows.searchLessRow.func = some 6 by kernel_rfl).symm.trans hf) |>.symm
 obtain rfl : fn = Tryz.f6 := (Option.some.inj (Tryz.func6.symm.trans hfn)).symm
 refine ⟨by kernel_rfl, fun j t ht => ?_⟩
 rw [Tryz.params6] at ht
 have hm := Array.mem_of_getElem? ht
 simp at hm
 rcases hm with rfl | rfl
 ·exact (show Tryz.prog.wantsStandIn 22 = false by kernel_rfl)
 ·exact (show Tryz.prog.wantsStandIn 3 = false by kernel_rfl)
theorem card : Rows.SearchLessCardSaid :=
 Claim7.holds_tied_plain_at .later [] _ _ _ _ said (fun _ h => by cases h) (by kernel_rfl) (fun _ h => by cases h) searchLess_row_tie rfl ⟨rfl, rfl⟩ (by kernel_rfl) rfl plain (by kernel_rfl)
end Go.Proofs.YthgpleelpeacjaaGreatDoor.searchLess
namespace Go.Proofs.YthgpleelpeacjaaGreatDoor
theorem searchLess_card : Rows.SearchLessCardSaid := searchLess.card
#print axioms searchLess_card
end Go.Proofs.YthgpleelpeacjaaGreatDoor
