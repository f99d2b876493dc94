/-
  FrameAgain: a frame that Parse read is built by Build as it was, byte by byte, and a text that Parse refuses has no frame and no samples; whatever the text and the stream. No condition (the tables of packages frame and sums start as the program lays them).
-/
import Derived.ShutString
import Derived.ChangeOld
import Derived.SizedLaws
import Derived.Carry
import Derived.Test.YtfpfabmbipmipaaGreatDoorA44
namespace Go.Proofs.YtfpfabmbipmipaaGreatDoor.frameAgain
open Go.ChangeShapes Go.WideShapes Go.ChangeAt Go.RowKit
open Go.ChangeMaps (open_string shut_string)
set_option linter.unusedSimpArgs false
set_option linter.unusedVariables false
theorem own : ownKnob Tryz.prog.godebug = none := by kernel_rfl
theorem laidOut : laidOutB Tryz.prog = true := by kernel_rfl
set_option maxRecDepth 20000 in
set_option maxHeartbeats 800000 in
theorem walk (s : ByteArray) (hs : s.size <= 140737488351232) (qa qb qc qd : Int) (q : Inf) (qe : Int) (qs : ByteArray) (hq : I64 q.rate /\ I64 q.ch /\ I64 q.wd) (w : World) (hT : Lay w) :
  Calls Tryz.prog 6 #[.string s, infV qa qb qc qd q qe qs] w fun e w' => e = .returned (.bool true) /\ Lo w w' := by
 have KAw : Hid (∀ wx, Lo w wx -> G1 12 #[] wx (.bool true)) := fun wx hb => awake_spec wx (hT.below hb)
 have HLay : Hid (Lay w) := hT
 clear hT
 have HB : Hid ((w.alloc (.cells (infC qa qb qc qd q qe qs) 26)).heap[w.heap.size]? = some (.cells (infC qa qb qc qd q qe qs) 26 (0, 0)) /\ Lo w (w.alloc (.cells (infC qa qb qc qd q qe qs) 26))) := ⟨heap_alloc_new _ _, aQ⟩
 by_cases hex : ∃ f P R, okF f q P /\ bytesOf s = frL f q P ++ R
 case neg =>
  have KP : Hid (∀ wx, Lo w wx -> Calls Tryz.prog 13 #[.string s, infV qa qb qc qd q qe qs] wx fun en w' => ∃ er : Int, ¬ er = 0 /\ en = .returned (.tuple #[.slice none 0 0, fmV F0 none 0, .int .i64 0, .int .i64 er]) /\ Lo wx w') := fun wx hb => parse_no s hs qa qb qc qd q qe qs (fun f P R h1 h2 => hex ⟨f, P, R, h1, h2⟩) wx (HLay.out.below hb)
  clear hex hq
  go_enter Tryz.func6, Tryz.ntmps6
  go_upto_region 1 with fail
  generalize World.alloc _ _ = wa at *
  obtain ⟨y0, y1, y2, y3, y4, y5, y6, y7, y8⟩ := inf_cells HB.out.1
  go_wp2_with fail
  refine (KP.out wa HB.out.2).mono ?_
  rintro en w1 ⟨er, her, rfl, hb1⟩
  have HL1 : Hid (Lo w (w1.alloc (.cells (fmC F0 none 0) 24))) := (HB.out.2.trans (hb1.mono HB.out.2.size)).alloc (Nat.le_trans HB.out.2.size hb1.size) _
  have her2 : (er != 0) = true := by rw [bne_iff_ne]; exact her
  clear hb1 HB her y0 y1 y2 y3 y4 y5 y6 y7 y8
  go_upto_region 2 with fail
  generalize World.alloc _ _ = w2 at *
  go_wp2_with fail
  refine (KAw.out w2 HL1.out).mono ?_
  rintro en wz ⟨rfl, hbz⟩
  have HLz : Hid (Lo w wz) := HL1.out.trans (hbz.mono HL1.out.size)
  clear hbz
  go_wp2_with fail
  go_ret
  exact ⟨rfl, HLz.out⟩
 case pos =>
  obtain ⟨f, P, R, hok, hB⟩ := hex
  obtain ⟨t, ht⟩ : ∃ t, t = textOf (frL f q P) := ⟨_, rfl⟩
  obtain ⟨n, hn⟩ : ∃ n, n = (frL f q P).length := ⟨_, rfl⟩
  obtain ⟨hcut, hle⟩ := cut_text s _ _ hB
  rw [<- hn] at hcut hle
  rw [<- ht] at hcut
  have KP : Hid (∀ wx, Lo w wx -> Calls Tryz.prog 13 #[.string s, infV qa qb qc qd q qe qs] wx fun en w' => ∃ ro rk so sk, en = .returned (.tuple #[.slice ro P.length rk, fmV f so sk, .int .i64 (n : Int), .int .i64 0]) /\ RowsAt w' ro P /\ FmAt w' f so sk /\ Lo wx w') := fun wx hb => by
   rw [hn]
   exact parse_ok s hs qa qb qc qd q qe qs hq f P R hok hB wx (HLay.out.below hb)
  have KB : Hid (∀ wx ro rk so sk, Lo w wx -> FmAt wx f so sk -> RowsAt wx ro P -> G1 8 #[fmV f so sk, infV qa qb qc qd q qe qs, .slice ro P.length rk] wx (.tuple #[.string t, .int .i64 0])) := fun wx ro rk so sk hb h1 h2 => by
   rw [ht]
   exact build_ok f so sk qa qb qc qd q qe qs hq.1 P ro rk wx (HLay.out.below hb) h1 h2 hok
  clear hok hB ht hn hq
  go_enter Tryz.func6, Tryz.ntmps6
  go_upto_region 1 with fail
  generalize World.alloc _ _ = wa at *
  obtain ⟨y0, y1, y2, y3, y4, y5, y6, y7, y8⟩ := inf_cells HB.out.1
  go_wp2_with fail
  refine (KP.out wa HB.out.2).mono ?_
  rintro en w1 ⟨ro, rk, so2, sk2, rfl, hr1, hf1, hb1⟩
  have HL1 : Hid (Lo w (w1.alloc (.cells (fmC f so2 sk2) 24))) := (HB.out.2.trans (hb1.mono HB.out.2.size)).alloc (Nat.le_trans HB.out.2.size hb1.size) _
  have HB1 : Hid ((w1.alloc (.cells (fmC f so2 sk2) 24)).heap[w.heap.size]? = some (.cells (infC qa qb qc qd q qe qs) 26 (0, 0))) := by show _ = _; rw [Below.block aQ _ (Nat.lt_of_lt_of_le (lt_of_block HB.out.1) hb1.size), hb1.block _ (lt_of_block HB.out.1)]; exact HB.out.1
  have HR1 : Hid (RowsAt (w1.alloc (.cells (fmC f so2 sk2) 24)) ro P) := hr1.below aQ
  have HF1 : Hid (FmAt (w1.alloc (.cells (fmC f so2 sk2) 24)) f so2 sk2) := hf1.below aQ
  have HG1 : Hid ((w1.alloc (.cells (fmC f so2 sk2) 24)).heap[w1.heap.size]? = some (.cells (fmC f so2 sk2) 24 (0, 0))) := heap_alloc_new _ _
  clear hr1 hf1 hb1 HB y0 y1 y2 y3 y4 y5 y6 y7 y8
  go_upto_region 2 with fail
  generalize hwe : World.alloc _ _ = w2 at *
  generalize w1.heap.size = gk at *
  clear hwe
  obtain ⟨y0, y1, y2, y3, y4, y5, y6, y7, y8⟩ := inf_cells HB1.out
  obtain ⟨u0, u1, u2, u3, u4, u5, u6, u7⟩ := fm_cells HG1.out
  go_wp2_with fail
  refine (KB.out w2 ro rk so2 sk2 HL1.out HF1.out HR1.out).mono ?_
  rintro en w3 ⟨rfl, hb3⟩
  have HL3 : Hid (Lo w w3) := HL1.out.trans (hb3.mono HL1.out.size)
  clear hb3 HL1 HB1 HR1 HF1 HG1 y0 y1 y2 y3 y4 y5 y6 y7 y8 u0 u1 u2 u3 u4 u5 u6 u7
  go_wp2_with fail
  refine (KAw.out w3 HL3.out).mono ?_
  rintro en wz ⟨rfl, hbz⟩
  have HLz : Hid (Lo w wz) := HL3.out.trans (hbz.mono HL3.out.size)
  clear hbz
  go_wp2_with fail
  go_ret
  exact ⟨rfl, HLz.out⟩
theorem door_met (os : Os) (args : Array Value) : laidMetH Tryz.prog Rows.frameAgainRow.laid ((World.doorLaid Tryz.prog 400 os).forCall (fun _ _ => 0) ⟨#[], args, []⟩).memory :=
 laidMetH_of_parts3 (fuel := 8) (laidMet_of_run' 8 (by kernel_rfl) (by kernel_rfl)) (by kernel_rfl) (by kernel_rfl)
set_option maxRecDepth 100000 in
theorem lifted (os : Os) (started : os.Started) (H : Type) (enc : TypeId × Value -> H) :
  ReturnsInHanded {} Tryz.checked os 6 .any (fun w args => (Rows.frameAgainSpec.pre enc Tryz.prog Tryz.f6 [] false w args /\ laidMetH Tryz.prog Rows.frameAgainRow.laid w) /\ sizedMet enc Tryz.prog Tryz.f6 (OpenSpec.ofChange Rows.frameAgainSpec) false w args)
   (Rows.frameAgainSpec.post enc Tryz.prog Tryz.f6 false true false false) := by
 refine returnsInHanded_of_change_and (C := Tryz.checked) (X := fun w _ => laidMetH Tryz.prog Rows.frameAgainRow.laid w) (fun _ _ _ hh h => h.of_heap hh) own started (by kernel_rfl) Tryz.func6
  (ChangeSpec.witness_shaped (enc := enc) (C := Tryz.checked) (os := os) (X := fun w _ => laidMetH Tryz.prog Rows.frameAgainRow.laid w) false (World.doorLaid Tryz.prog 400 os) #[.string ByteArray.empty, .agg #[.int .i64 0, .int .i64 0, .int .i64 0, .int .i64 0, .int .i64 0, .int .i64 0, .int .i64 0, .int .i64 0, .string ByteArray.empty]] 8 rfl (World.shaped_of_RefB (by kernel_rfl) (by kernel_rfl)) (by kernel_rfl) (by kernel_rfl) (by kernel_rfl) (door_met os _)) ?_
 intro W base args ds gs before hval0 hW _ hsz0 hL _
 have hval : ∀ (j : Nat) t v, Tryz.f6.params[j]? = some t -> args[j]? = some v -> Value.okWide Tryz.prog W .any base t v := hval0
 have hsz : (DataW.weightsEach Tryz.prog (Tryz.f6.params.toList ++ Rows.frameAgainSpec.plain.varTypes Tryz.prog) (ds ++ gs)).all (· <= reachBytes) = true := hsz0
 have hW' := hW
 obtain ⟨p, q, hA0, hV, rfl, hfz, hnd⟩ := hW
 have hA : DataW.TrodAll enc Tryz.prog W 0 (fun _ => true) true Tryz.f6.params.toList args.toList ds p := hA0
 rw [Tryz.params6] at hA hval hsz
 obtain ⟨v0, vs0, d0, ds0, p0, q0, hargs, rfl, rfl, h0, r0⟩ := trodAll_cons hA
 obtain ⟨v1, vs1, d1, ds1, p1, q1, rfl, rfl, rfl, h1, r1⟩ := trodAll_cons r0
 obtain ⟨rfl, rfl, rfl⟩ := trodAll_nil r1
 obtain rfl : args = #[v0, v1] := by cases args; simp_all
 obtain ⟨rfl, rfl⟩ := trodVars_none hV
 have hall := List.all_eq_true.1 hsz
 obtain ⟨x0, rfl, rfl, rfl, i0⟩ := open_string Tryz.underlying9 (hval 0 9 v0 rfl rfl) h0
 have hq0 := sized_string hsz (j := 0) (t := 9) rfl rfl
 have hz0 : x0.size <= 140737488351232 := by
  have e : x0.data.toList.length = x0.size := by rw [Array.length_toList]; rfl
  rw [e] at hq0
  simp only [reachBytes] at hq0
  omega
 have k1 := h1
 have lt1 : ∀ x ∈ p1, x.block < W.heap.size := by obtain ⟨m, hm⟩ := k1; exact DataW.trod_lt m _ _ _ hm
 obtain ⟨a1, b1, c1, dd1, i1, e1, s1, rfl, hi1⟩ := open_info (hval 1 26 v1 rfl rfl) h1
 have hT : Lay W := lay_of_laidA hL
 clear hA0 hval0
 refine (walk x0 hz0 a1 b1 c1 dd1 i1 e1 s1 hi1 W hT).mono fun e W' ⟨he, bel⟩ => ?_
 subst he
 exact ⟨_, rfl, _, _, _, [], _, [], hW', trodAll_mk1 (shut_bool Tryz.underlying4 _), (trodAll_cons_mk (shut_string Tryz.underlying9 i0) (trodAll_cons_mk (Below.trod laidOut (by kernel_rfl) (of_decide_eq_true (by kernel_rfl)) k1 bel lt1) trodAll_mk0)), rfl, bel.frame _, fun h => by cases h⟩
theorem said : Rows.FrameAgainSaid :=
 OpenClaim.holds_of_wide 6 Tryz.f6 rfl rfl rfl rfl rfl rfl rfl ⟨rfl, rfl, rfl, rfl, rfl⟩ rfl rfl rfl rfl rfl (by kernel_rfl) Tryz.func6 (by kernel_rfl)
  (of_decide_eq_true (by kernel_rfl)) (by unfold Func.isWrapper; first | (rw [if_pos (by decide +kernel)]; kernel_rfl) | (rw [if_neg (by decide +kernel)]; exact ⟨rfl, rfl⟩))
  (fun os started H enc _ => lifted os started H enc)
theorem plain (f : FuncId) (fn : Func) (hf : Tryz.pinned.checked.prog.funcNamed Rows.frameAgainRow.func = some f) (hfn : Tryz.pinned.checked.prog.funcs[f]? = some fn) :
  false = Tryz.pinned.checked.prog.looks [] /\ ∀ (j : Nat) t, fn.params[j]? = some t -> Tryz.pinned.checked.prog.wantsStandIn t = false := by
 obtain rfl : f = 6 := Option.some.inj ((show Tryz.prog.funcNamed Rows.frameAgainRow.func = some 6 by kernel_rfl).symm.trans hf) |>.symm
 obtain rfl : fn = Tryz.f6 := (Option.some.inj (Tryz.func6.symm.trans hfn)).symm
 refine ⟨by kernel_rfl, fun j t ht => ?_⟩
 rw [Tryz.params6] at ht
 have hm := Array.mem_of_getElem? ht
 simp at hm
 rcases hm with rfl | rfl
 ·exact (show Tryz.prog.wantsStandIn 9 = false by kernel_rfl)
 ·exact (show Tryz.prog.wantsStandIn 26 = false by kernel_rfl)
theorem card : Rows.FrameAgainCardSaid :=
 Claim7.holds_tied_plain_at .later [] _ _ _ _ said (fun _ h => by cases h) (by kernel_rfl) (fun _ h => by cases h) frameAgain_row_tie rfl ⟨rfl, rfl⟩ (by kernel_rfl) rfl plain (by kernel_rfl)
end Go.Proofs.YtfpfabmbipmipaaGreatDoor.frameAgain
namespace Go.Proofs.YtfpfabmbipmipaaGreatDoor
theorem frameAgain_card : Rows.FrameAgainCardSaid := frameAgain.card
#print axioms frameAgain_card
end Go.Proofs.YtfpfabmbipmipaaGreatDoor
