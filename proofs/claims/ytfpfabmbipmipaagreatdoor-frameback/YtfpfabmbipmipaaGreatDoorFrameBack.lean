/-
  FrameBack: a frame that Build made is read by Parse as it was, whatever stands behind it, and what Build refuses is no text; whatever the frame, the stream and the samples. No condition (the tables of packages frame and sums start as the program lays them).
-/
import Derived.ShutString
import Derived.ChangeOld
import Derived.SizedLaws
import Derived.Carry
import Derived.Test.YtfpfabmbipmipaaGreatDoorB46
import Derived.Test.YtfpfabmbipmipaaGreatDoorB47
namespace Go.Proofs.YtfpfabmbipmipaaGreatDoor.frameBack
open Go.ChangeShapes Go.WideShapes Go.ChangeAt Go.RowKit
open Go.ChangeMaps (open_string shut_string)
set_option linter.unusedSimpArgs false
set_option linter.unusedVariables false
theorem own : ownKnob Tryz.prog.godebug = none := by kernel_rfl
theorem laidOut : laidOutB Tryz.prog = true := by kernel_rfl
set_option maxRecDepth 20000 in
set_option maxHeartbeats 800000 in
theorem walk (f : Fm) (fo : OA) (fk : Nat) (qa qb qc qd : Int) (q : Inf) (qe : Int) (qs : ByteArray) (hq : I64 q.rate /\ I64 q.ch /\ I64 q.wd) (P : List (List Int)) (Po : OA) (Pk : Nat) (w : World) (rf : FmAt w f fo fk) (rP : RowsAt w Po P) (hT : Lay w) :
  Calls Tryz.prog 5 #[fmV f fo fk, infV qa qb qc qd q qe qs, .slice Po P.length Pk] w fun e w' => e = .returned (.bool true) /\ Lo w w' := by
 have KAw : Hid (∀ wx, Lo w wx -> G1 12 #[] wx (.bool true)) := fun wx hb => awake_spec wx (hT.below hb)
 have HLay : Hid (Lay w) := hT
 clear hT
 have HF : Hid (FmAt w f fo fk) := rf
 have HP : Hid (RowsAt w Po P) := rP
 clear rf rP
 have HA : Hid (FX w f fo fk qa qb qc qd q qe qs ((w.alloc (.cells (fmC f fo fk) 24)).alloc (.cells (infC qa qb qc qd q qe qs) 26))) := FX.new w f fo fk qa qb qc qd q qe qs
 by_cases hok : okF f q P
 case neg =>
  have KB : Hid (∀ wx, Lo w wx -> G1 8 #[fmV f fo fk, infV qa qb qc qd q qe qs, .slice Po P.length Pk] wx (.tuple #[.string ⟨#[]⟩, .int .i64 60])) := fun wx hb => build_no f fo fk qa qb qc qd q qe qs hq.1 P Po Pk wx (HLay.out.below hb) (HF.out.below hb) (HP.out.below hb) hok
  clear hok hq
  go_enter Tryz.func5, Tryz.ntmps5
  go_upto_region 1 with fail
  generalize World.alloc _ _ = wa at *
  obtain ⟨z0, z1, z2, z3, z4, z5, z6, z7, y0, y1, y2, y3, y4, y5, y6, y7, y8⟩ := HA.out.cells
  go_wp2_with fail
  refine (KB.out wa HA.out.below).mono ?_
  rintro en w1 ⟨rfl, hb1⟩
  clear z0 z1 z2 z3 z4 z5 z6 z7 y0 y1 y2 y3 y4 y5 y6 y7 y8
  have HL1 : Hid (Lo w w1) := HA.out.below.trans (hb1.mono HA.out.below.size)
  clear hb1 HA
  go_wp2_with fail
  refine (KAw.out w1 HL1.out).mono ?_
  rintro en wz ⟨rfl, hbz⟩
  have HLz : Hid (Lo w wz) := HL1.out.trans (hbz.mono HL1.out.size)
  clear hbz
  go_wp2_with fail
  go_ret
  exact ⟨rfl, HLz.out⟩
 case pos =>
  obtain ⟨t, ht⟩ : ∃ t, t = textOf (frL f q P) := ⟨_, rfl⟩
  have hlt := frL_lt f q P hok
  have hsz : t.size = (frL f q P).length := by rw [ht, textOf_size]
  have hrm := frL_room f q P hok
  have hbt : bytesOf (t ++ ⟨#[255, 248]⟩) = frL f q P ++ [255, 248] := by rw [bytesOf_app, ht, bytesOf_textOf _ hlt]; rfl
  have hs2 : (t ++ ⟨#[255, 248]⟩).size <= 140737488351232 := by
   have e2 : (⟨#[255, 248]⟩ : ByteArray).size = 2 := rfl
   rw [ByteArray.size_append, hsz, e2]; omega
  have KB : Hid (∀ wx, Lo w wx -> G1 8 #[fmV f fo fk, infV qa qb qc qd q qe qs, .slice Po P.length Pk] wx (.tuple #[.string t, .int .i64 0])) := fun wx hb => by
   rw [ht]
   exact build_ok f fo fk qa qb qc qd q qe qs hq.1 P Po Pk wx (HLay.out.below hb) (HF.out.below hb) (HP.out.below hb) hok
  have KP : Hid (∀ wx, Lo w wx -> Calls Tryz.prog 13 #[.string (t ++ ⟨#[255, 248]⟩), infV qa qb qc qd q qe qs] wx fun en w' => ∃ ro rk so sk, en = .returned (.tuple #[.slice ro P.length rk, fmV f so sk, .int .i64 (t.size : Int), .int .i64 0]) /\ RowsAt w' ro P /\ FmAt w' f so sk /\ Lo wx w') := fun wx hb => by
   have g := parse_ok (t ++ ⟨#[255, 248]⟩) hs2 qa qb qc qd q qe qs hq f P [255, 248] hok hbt wx (HLay.out.below hb)
   rw [<- hsz] at g
   exact g
  have hts : t.size <= 200000000000 := by omega
  clear ht hlt hsz hrm hbt hok hq hs2
  go_enter Tryz.func5, Tryz.ntmps5
  go_upto_region 1 with fail
  generalize World.alloc _ _ = wa at *
  obtain ⟨z0, z1, z2, z3, z4, z5, z6, z7, y0, y1, y2, y3, y4, y5, y6, y7, y8⟩ := HA.out.cells
  go_wp2_with fail
  refine (KB.out wa HA.out.below).mono ?_
  rintro en w1 ⟨rfl, hb1⟩
  clear z0 z1 z2 z3 z4 z5 z6 z7 y0 y1 y2 y3 y4 y5 y6 y7 y8
  have HA1 : Hid (FX w f fo fk qa qb qc qd q qe qs w1) := HA.out.next hb1
  clear hb1 HA
  obtain ⟨z0, z1, z2, z3, z4, z5, z6, z7, y0, y1, y2, y3, y4, y5, y6, y7, y8⟩ := HA1.out.cells
  go_wp2_with fail
  refine (KP.out w1 HA1.out.below).mono ?_
  rintro en w2 ⟨ro, rk, so2, sk2, rfl, hr2, hf2, hb2⟩
  clear z0 z1 z2 z3 z4 z5 z6 z7 y0 y1 y2 y3 y4 y5 y6 y7 y8
  have HA2 : Hid (FX w f fo fk qa qb qc qd q qe qs (w2.alloc (.cells (fmC f so2 sk2) 24))) := (HA1.out.next hb2).next aQ
  have HR2 : Hid (RowsAt (w2.alloc (.cells (fmC f so2 sk2) 24)) ro P) := hr2.below aQ
  have HS2 : Hid (SubsAt (w2.alloc (.cells (fmC f so2 sk2) 24)) so2 f.S) := hf2.S.below aQ
  have HG2 : Hid ((w2.alloc (.cells (fmC f so2 sk2) 24)).heap[w2.heap.size]? = some (.cells (fmC f so2 sk2) 24 (0, 0))) := heap_alloc_new _ _
  clear hr2 hf2 hb2 HA1
  go_upto_region 5 with fail
  generalize hwe : World.alloc _ _ = w3 at *
  generalize w2.heap.size = gk at *
  clear hwe
  have kp := planes_same P ro Po rk Pk w3 HR2.out (HP.out.below HA2.out.below)
  go_wp2_with fail
  refine kp.mono ?_
  rintro en w4 ⟨rfl, hb4⟩
  have HA4 : Hid (FX w f fo fk qa qb qc qd q qe qs w4) := HA2.out.next hb4
  have HS4 : Hid (SubsAt w4 so2 f.S) := HS2.out.below hb4
  have HG4 : Hid (w4.heap[gk]? = some (.cells (fmC f so2 sk2) 24 (0, 0))) := by show _ = _; rw [hb4.block _ (lt_of_block HG2.out)]; exact HG2.out
  clear hb4 kp HA2 HR2 HS2 HG2
  have ks := fr_same f fo so2 fk sk2 w4 (HF.out.S.below HA4.out.below) HS4.out
  obtain ⟨z0, z1, z2, z3, z4, z5, z6, z7, y0, y1, y2, y3, y4, y5, y6, y7, y8⟩ := HA4.out.cells
  obtain ⟨u0, u1, u2, u3, u4, u5, u6, u7⟩ := fm_cells HG4.out
  go_wp2_with fail
  refine ks.mono ?_
  rintro en w5 ⟨rfl, hb5⟩
  have HL5 : Hid (Lo w w5) := HA4.out.below.trans (hb5.mono HA4.out.below.size)
  clear hb5 ks u0 u1 u2 u3 u4 u5 u6 u7 z0 z1 z2 z3 z4 z5 z6 z7 y0 y1 y2 y3 y4 y5 y6 y7 y8 HA4 HS4 HG4
  go_wp2_with fail
  refine (KAw.out w5 HL5.out).mono ?_
  rintro en wz ⟨rfl, hbz⟩
  have HLz : Hid (Lo w wz) := HL5.out.trans (hbz.mono HL5.out.size)
  clear hbz
  go_wp2_with fail
  go_ret
  exact ⟨rfl, HLz.out⟩
theorem door_met (os : Os) (args : Array Value) : laidMetH Tryz.prog Rows.frameBackRow.laid ((World.doorLaid Tryz.prog 400 os).forCall (fun _ _ => 0) ⟨#[], args, []⟩).memory :=
 laidMetH_of_parts3 (fuel := 8) (laidMet_of_run' 8 (by kernel_rfl) (by kernel_rfl)) (by kernel_rfl) (by kernel_rfl)
set_option maxRecDepth 100000 in
theorem lifted (os : Os) (started : os.Started) (H : Type) (enc : TypeId × Value -> H) :
  ReturnsInHanded {} Tryz.checked os 5 .any (fun w args => (Rows.frameBackSpec.pre enc Tryz.prog Tryz.f5 [] false w args /\ laidMetH Tryz.prog Rows.frameBackRow.laid w) /\ sizedMet enc Tryz.prog Tryz.f5 (OpenSpec.ofChange Rows.frameBackSpec) false w args)
   (Rows.frameBackSpec.post enc Tryz.prog Tryz.f5 false true false false) := by
 refine returnsInHanded_of_change_and (C := Tryz.checked) (X := fun w _ => laidMetH Tryz.prog Rows.frameBackRow.laid w) (fun _ _ _ hh h => h.of_heap hh) own started (by kernel_rfl) Tryz.func5
  (ChangeSpec.witness_shaped (enc := enc) (C := Tryz.checked) (os := os) (X := fun w _ => laidMetH Tryz.prog Rows.frameBackRow.laid w) false (World.doorLaid Tryz.prog 400 os) #[.agg #[.bool false, .int .i64 0, .int .i64 0, .int .i64 0, .int .i64 0, .int .i64 0, .int .i64 0, .slice none 0 0], .agg #[.int .i64 0, .int .i64 0, .int .i64 0, .int .i64 0, .int .i64 0, .int .i64 0, .int .i64 0, .int .i64 0, .string ByteArray.empty], .slice none 0 0] 8 rfl (World.shaped_of_RefB (by kernel_rfl) (by kernel_rfl)) (by kernel_rfl) (by kernel_rfl) (by kernel_rfl) (door_met os _)) ?_
 intro W base args ds gs before hval0 hW _ hsz0 hL _
 have hval : ∀ (j : Nat) t v, Tryz.f5.params[j]? = some t -> args[j]? = some v -> Value.okWide Tryz.prog W .any base t v := hval0
 have hsz : (DataW.weightsEach Tryz.prog (Tryz.f5.params.toList ++ Rows.frameBackSpec.plain.varTypes Tryz.prog) (ds ++ gs)).all (· <= reachBytes) = true := hsz0
 have hW' := hW
 obtain ⟨p, q, hA0, hV, rfl, hfz, hnd⟩ := hW
 have hA : DataW.TrodAll enc Tryz.prog W 0 (fun _ => true) true Tryz.f5.params.toList args.toList ds p := hA0
 rw [Tryz.params5] at hA hval hsz
 obtain ⟨v0, vs0, d0, ds0, p0, q0, hargs, rfl, rfl, h0, r0⟩ := trodAll_cons hA
 obtain ⟨v1, vs1, d1, ds1, p1, q1, rfl, rfl, rfl, h1, r1⟩ := trodAll_cons r0
 obtain ⟨v2, vs2, d2, ds2, p2, q2, rfl, rfl, rfl, h2, r2⟩ := trodAll_cons r1
 obtain ⟨rfl, rfl, rfl⟩ := trodAll_nil r2
 obtain rfl : args = #[v0, v1, v2] := by cases args; simp_all
 obtain ⟨rfl, rfl⟩ := trodVars_none hV
 have hall := List.all_eq_true.1 hsz
 have hw0 : ∀ n ∈ d0.weights Tryz.prog 24, n <= reachBytes := fun n hn => by
  have := hall n (List.mem_append.2 (.inl hn))
  exact of_decide_eq_true this
 have k0 := h0
 have lt0 : ∀ x ∈ p0, x.block < W.heap.size := by obtain ⟨m, hm⟩ := k0; exact DataW.trod_lt m _ _ _ hm
 obtain ⟨x0, so0, sk0, rfl, hr0⟩ := open_frame (hval 0 24 v0 rfl rfl) h0 hw0
 have k1 := h1
 have lt1 : ∀ x ∈ p1, x.block < W.heap.size := by obtain ⟨m, hm⟩ := k1; exact DataW.trod_lt m _ _ _ hm
 obtain ⟨a1, b1, c1, dd1, i1, e1, s1, rfl, hi1⟩ := open_info (hval 1 26 v1 rfl rfl) h1
 have hw2 : ∀ n ∈ d2.weights Tryz.prog 27, n <= reachBytes := fun n hn => by
  have := hall n (List.mem_append.2 (.inr (List.mem_append.2 (.inr (List.mem_append.2 (.inl hn))))))
  exact of_decide_eq_true this
 have k2 := h2
 have lt2 : ∀ x ∈ p2, x.block < W.heap.size := by obtain ⟨m, hm⟩ := k2; exact DataW.trod_lt m _ _ _ hm
 obtain ⟨o2, k2x, x2, rfl, hr2⟩ := open_rows (hval 2 27 v2 rfl rfl) h2 hw2
 have hT : Lay W := lay_of_laid hL
 clear hA0 hval0
 refine (walk x0 so0 sk0 a1 b1 c1 dd1 i1 e1 s1 hi1 x2 o2 k2x W hr0 hr2 hT).mono fun e W' ⟨he, bel⟩ => ?_
 subst he
 exact ⟨_, rfl, _, _, _, [], _, [], hW', trodAll_mk1 (shut_bool Tryz.underlying4 _), (trodAll_cons_mk (Below.trod laidOut (by kernel_rfl) (of_decide_eq_true (by kernel_rfl)) k0 bel lt0) (trodAll_cons_mk (Below.trod laidOut (by kernel_rfl) (of_decide_eq_true (by kernel_rfl)) k1 bel lt1) (trodAll_cons_mk (Below.trod laidOut (by kernel_rfl) (of_decide_eq_true (by kernel_rfl)) k2 bel lt2) trodAll_mk0))), rfl, bel.frame _, fun h => by cases h⟩
theorem said : Rows.FrameBackSaid :=
 OpenClaim.holds_of_wide 5 Tryz.f5 rfl rfl rfl rfl rfl rfl rfl ⟨rfl, rfl, rfl, rfl, rfl⟩ rfl rfl rfl rfl rfl (by kernel_rfl) Tryz.func5 (by kernel_rfl)
  (of_decide_eq_true (by kernel_rfl)) (by unfold Func.isWrapper; first | (rw [if_pos (by decide +kernel)]; kernel_rfl) | (rw [if_neg (by decide +kernel)]; exact ⟨rfl, rfl⟩))
  (fun os started H enc _ => lifted os started H enc)
theorem plain (f : FuncId) (fn : Func) (hf : Tryz.pinned.checked.prog.funcNamed Rows.frameBackRow.func = some f) (hfn : Tryz.pinned.checked.prog.funcs[f]? = some fn) :
  false = Tryz.pinned.checked.prog.looks [] /\ ∀ (j : Nat) t, fn.params[j]? = some t -> Tryz.pinned.checked.prog.wantsStandIn t = false := by
 obtain rfl : f = 5 := Option.some.inj ((show Tryz.prog.funcNamed Rows.frameBackRow.func = some 5 by kernel_rfl).symm.trans hf) |>.symm
 obtain rfl : fn = Tryz.f5 := (Option.some.inj (Tryz.func5.symm.trans hfn)).symm
 refine ⟨by kernel_rfl, fun j t ht => ?_⟩
 rw [Tryz.params5] at ht
 have hm := Array.mem_of_getElem? ht
 simp at hm
 rcases hm with rfl | rfl | rfl
 ·exact (show Tryz.prog.wantsStandIn 24 = false by kernel_rfl)
 ·exact (show Tryz.prog.wantsStandIn 26 = false by kernel_rfl)
 ·exact (show Tryz.prog.wantsStandIn 27 = false by kernel_rfl)
theorem card : Rows.FrameBackCardSaid :=
 Claim7.holds_tied_plain_at .later [] _ _ _ _ said (fun _ h => by cases h) (by kernel_rfl) (fun _ h => by cases h) frameBack_row_tie rfl ⟨rfl, rfl⟩ (by kernel_rfl) rfl plain (by kernel_rfl)
end Go.Proofs.YtfpfabmbipmipaaGreatDoor.frameBack
namespace Go.Proofs.YtfpfabmbipmipaaGreatDoor
theorem frameBack_card : Rows.FrameBackCardSaid := frameBack.card
#print axioms frameBack_card
end Go.Proofs.YtfpfabmbipmipaaGreatDoor
