/-
  FrameSpoilt: a frame of which one byte is another one is not taken by Parse for a frame of as many bytes; whatever the text, the stream and the place. No condition (the tables of packages frame and sums start as the program lays them).
-/
import Derived.ShutString
import Derived.ChangeOld
import Derived.SizedLaws
import Derived.Carry
import Derived.Test.YtfpfabmbipmipaaGreatDoorA44
namespace Go.Proofs.YtfpfabmbipmipaaGreatDoor.frameSpoilt
open Go.ChangeShapes Go.WideShapes Go.ChangeAt Go.RowKit
open Go.ChangeMaps (open_string shut_string)
set_option linter.unusedSimpArgs false
set_option linter.unusedVariables false
theorem own : ownKnob Tryz.prog.godebug = none := by kernel_rfl
theorem laidOut : laidOutB Tryz.prog = true := by kernel_rfl
set_option maxRecDepth 20000 in
set_option maxHeartbeats 800000 in
theorem walk (s : ByteArray) (hs : s.size <= 140737488351232) (qa qb qc qd : Int) (q : Inf) (qe : Int) (qs : ByteArray) (hq : I64 q.rate /\ I64 q.ch /\ I64 q.wd) (at_ : Int) (at_1 : -9223372036854775808 <= at_) (at_2 : at_ <= 9223372036854775807) (w : World) (hT : Lay w) :
  Calls Tryz.prog 7 #[.string s, infV qa qb qc qd q qe qs, .int .i64 at_] w fun e w' => e = .returned (.bool true) /\ Lo w w' := by
 have KAw : Hid (∀ wx, Lo w wx -> G1 12 #[] wx (.bool true)) := fun wx hb => awake_spec wx (hT.below hb)
 have HLay : Hid (Lay w) := hT
 clear hT
 have HB : Hid ((w.alloc (.cells (infC qa qb qc qd q qe qs) 26)).heap[w.heap.size]? = some (.cells (infC qa qb qc qd q qe qs) 26 (0, 0)) /\ Lo w (w.alloc (.cells (infC qa qb qc qd q qe qs) 26))) := ⟨heap_alloc_new _ _, aQ⟩
 by_cases hex : ∃ f P R, okF f q P /\ bytesOf s = frL f q P ++ R
 case neg =>
  have KP : Hid (∀ wx, Lo w wx -> Calls Tryz.prog 13 #[.string s, infV qa qb qc qd q qe qs] wx fun en w' => ∃ er : Int, ¬ er = 0 /\ en = .returned (.tuple #[.slice none 0 0, fmV F0 none 0, .int .i64 0, .int .i64 er]) /\ Lo wx w') := fun wx hb => parse_no s hs qa qb qc qd q qe qs (fun f P R h1 h2 => hex ⟨f, P, R, h1, h2⟩) wx (HLay.out.below hb)
  clear hex hq
  go_enter Tryz.func7, Tryz.ntmps7
  go_upto_region 1 with fail
  generalize World.alloc _ _ = wa at *
  obtain ⟨y0, y1, y2, y3, y4, y5, y6, y7, y8⟩ := inf_cells HB.out.1
  go_wp2_with fail
  refine (KP.out wa HB.out.2).mono ?_
  rintro en w1 ⟨er, her, rfl, hb1⟩
  have HL1 : Hid (Lo w (w1.alloc (.cells (fmC F0 none 0) 24))) := (HB.out.2.trans (hb1.mono HB.out.2.size)).alloc (Nat.le_trans HB.out.2.size hb1.size) _
  have her2 : (er != 0) = true := by rw [bne_iff_ne]; exact her
  clear hb1 HB her y0 y1 y2 y3 y4 y5 y6 y7 y8
  go_upto_region 2 with fail
  generalize World.alloc _ _ = w2 at *
  go_wp2_with fail
  refine (KAw.out w2 HL1.out).mono ?_
  rintro en wz ⟨rfl, hbz⟩
  have HLz : Hid (Lo w wz) := HL1.out.trans (hbz.mono HL1.out.size)
  clear hbz
  go_wp2_with fail
  go_ret
  exact ⟨rfl, HLz.out⟩
 case pos =>
  obtain ⟨f, P, R, hok, hB⟩ := hex
  obtain ⟨n, hn⟩ : ∃ n, n = (frL f q P).length := ⟨_, rfl⟩
  obtain ⟨hcut, hle⟩ := cut_text s _ _ hB
  have hlt := frL_lt f q P hok
  have hrm := frL_room f q P hok
  have hn2 : 2 <= (frL f q P).length := by unfold frL; rw [outL_len]; omega
  rw [<- hn] at hcut hle hrm hn2
  have KP : Hid (∀ wx, Lo w wx -> Calls Tryz.prog 13 #[.string s, infV qa qb qc qd q qe qs] wx fun en w' => ∃ ro rk so sk, en = .returned (.tuple #[.slice ro P.length rk, fmV f so sk, .int .i64 (n : Int), .int .i64 0]) /\ RowsAt w' ro P /\ FmAt w' f so sk /\ Lo wx w') := fun wx hb => by
   rw [hn]
   exact parse_ok s hs qa qb qc qd q qe qs hq f P R hok hB wx (HLay.out.below hb)
  obtain ⟨k, hk, hkk⟩ := place at_ n (by omega) (by omega)
  obtain ⟨y, hy⟩ : ∃ y, y = (frL f q P).getD k 0 ^^^ 1 := ⟨_, rfl⟩
  obtain ⟨x, hx⟩ : ∃ x, x = (frL f q P).getD k 0 := ⟨_, rfl⟩
  have hkl : k < (frL f q P).length := by omega
  have hx256 : x < 256 := by
   rw [hx, List.getD_eq_getElem?_getD, List.getElem?_eq_getElem hkl]
   exact hlt _ (List.getElem_mem hkl)
  have hy256 : y < 256 := by rw [hy, <- hx]; exact Nat.xor_lt_two_pow (n := 8) hx256 (by decide)
  have hxor : bits .xor .u8 ((x : Nat) : Int) (1 : Int) = (y : Int) := by rw [hy, <- hx]; exact u8_xor_nat x 1 hx256 (by decide)
  have hne : y ≠ (frL f q P).getD k 0 := fun e => by
   rw [hy] at e
   have h1 : (frL f q P).getD k 0 ^^^ ((frL f q P).getD k 0 ^^^ 1) = (frL f q P).getD k 0 ^^^ (frL f q P).getD k 0 := by rw [e]
   rw [<- Nat.xor_assoc, Nat.xor_self, Nat.zero_xor] at h1
   cases h1
  have hsp := fun g Q => fr_spoilt f g q P Q hlt k y hkl hy256 hne
  have HBM : Hid (∀ wx : World, ∃ cap w', (convert 9 44 (.string (s.extract 0 n))).run Tryz.prog wx = .ok (.slice (some ⟨wx.heap.size, 0, none⟩) n cap) w' /\ Buf wx.heap.size w' wx.heap.size cap (frL f q P) /\ Lo wx w') := fun wx => by
   rw [hcut, hn]
   exact run_buf_make wx (frL f q P) hlt
  obtain ⟨L, hL⟩ : ∃ L, L = (frL f q P).set k y := ⟨_, rfl⟩
  have hLn : L.length = n := by rw [hL, List.length_set, hn]
  have hLlt : ∀ b ∈ L, b < 256 := fun b hb => by
   rw [hL] at hb
   rcases List.mem_or_eq_of_mem_set hb with h | h
   ·exact hlt b h
   ·rw [h]; exact hy256
  have HSE : Hid (∀ {wx : World} {g cap : Nat}, Buf g wx g cap (frL f q P) -> wx.cell? ⟨g, k, none⟩ = some (.int .u8 (x : Int)) /\ wx.frozen? ⟨g, k, none⟩ = false /\ n <= cap /\ Buf g (wx.setCell ⟨g, k, none⟩ (.int .u8 (y : Int))) g cap L) := fun h => by
   refine ⟨by rw [hx]; exact h.cells k hkl, (h.there k (Nat.lt_of_lt_of_le hkl h.room)).2, by rw [hn]; exact h.room, ?_⟩
   rw [hL]; exact h.set k y hkl
  have hbt : bytesOf (textOf L) = L := bytesOf_textOf L hLlt
  have hts : (textOf L).size <= 140737488351232 := by rw [textOf_size, hLn]; omega
  have KQ : Hid (∀ wx, Lo w wx -> Calls Tryz.prog 13 #[.string (textOf L), infV qa qb qc qd q qe qs] wx fun en w' => ∃ (rv : Value) (fc : Fm × OA × Nat) (nk er : Int), (¬ er = 0 ∨ ¬ nk = (n : Int)) /\ en = .returned (.tuple #[rv, .agg (fmC fc.1 fc.2.1 fc.2.2), .int .i64 nk, .int .i64 er]) /\ Lo wx w') := fun wx hb => by
   by_cases hex2 : ∃ g Q R2, okF g q Q /\ bytesOf (textOf L) = frL g q Q ++ R2
   ·obtain ⟨g, Q, R2, g1, g2⟩ := hex2
    refine (parse_ok (textOf L) hts qa qb qc qd q qe qs hq g Q R2 g1 g2 wx (HLay.out.below hb)).mono fun en w' hh => ?_
    obtain ⟨ro, rk, so, sk, e1, _, _, e4⟩ := hh
    refine ⟨_, (g, so, sk), _, 0, .inr (fun e => ?_), e1, e4⟩
    rw [hbt] at g2
    have e2 : (frL g q Q).length = n := by omega
    have e3 := congrArg List.length g2
    rw [List.length_append, e2, hLn] at e3
    have e5 : R2 = [] := List.eq_nil_of_length_eq_zero (by omega)
    rw [e5, List.append_nil, hL] at g2
    exact hsp g Q g2
   ·refine (parse_no (textOf L) hts qa qb qc qd q qe qs (fun f P R h1 h2 => hex2 ⟨f, P, R, h1, h2⟩) wx (HLay.out.below hb)).mono fun en w' hh => ?_
    obtain ⟨er, e0, e1, e2⟩ := hh
    exact ⟨_, (F0, none, 0), _, er, .inl e0, e1, e2⟩
  clear hok hB hn hq hcut hlt hne hsp hy hx hkl hL hLlt hbt hts hx256 hy256
  go_enter Tryz.func7, Tryz.ntmps7
  go_upto_region 1 with fail
  generalize World.alloc _ _ = wa at *
  obtain ⟨y0, y1, y2, y3, y4, y5, y6, y7, y8⟩ := inf_cells HB.out.1
  go_wp2_with fail
  refine (KP.out wa HB.out.2).mono ?_
  rintro en w1 ⟨ro, rk, so2, sk2, rfl, hr1, hf1, hb1⟩
  have HL1 : Hid (Lo w (w1.alloc (.cells (fmC f so2 sk2) 24))) := (HB.out.2.trans (hb1.mono HB.out.2.size)).alloc (Nat.le_trans HB.out.2.size hb1.size) _
  have HB1 : Hid ((w1.alloc (.cells (fmC f so2 sk2) 24)).heap[w.heap.size]? = some (.cells (infC qa qb qc qd q qe qs) 26 (0, 0))) := by show _ = _; rw [Below.block aQ _ (Nat.lt_of_lt_of_le (lt_of_block HB.out.1) hb1.size), hb1.block _ (lt_of_block HB.out.1)]; exact HB.out.1
  clear hr1 hf1 hb1 HB y0 y1 y2 y3 y4 y5 y6 y7 y8 KP
  go_upto_region 2 with fail
  generalize World.alloc _ _ = w2 at *
  obtain ⟨cap, w3, hrun, hbuf, hb3⟩ := HBM.out w2
  obtain ⟨hcell, hth, hcap, hset⟩ := HSE.out hbuf
  have HL3 : Hid (Lo w (w3.setCell ⟨w2.heap.size, k, none⟩ (.int .u8 (y : Int)))) := (HL1.out.trans (hb3.mono HL1.out.size)).setCell HL1.out.size _
  have HB3 : Hid ((w3.setCell ⟨w2.heap.size, k, none⟩ (.int .u8 (y : Int))).heap[w.heap.size]? = some (.cells (infC qa qb qc qd q qe qs) 26 (0, 0))) := by
   show _ = _
   have hlw := lt_of_block HB1.out
   have hbs : Lo w2 (w3.setCell ⟨w2.heap.size, k, none⟩ (.int .u8 (y : Int))) := hb3.setCell (Nat.le_refl _) _
   rw [hbs.block _ hlw]; exact HB1.out
  have HC3 : Hid ((convert 44 9 (.slice (some ⟨w2.heap.size, 0, none⟩) n cap)).run Tryz.prog (w3.setCell ⟨w2.heap.size, k, none⟩ (.int .u8 (y : Int))) = .ok (.string (textOf L)) (w3.setCell ⟨w2.heap.size, k, none⟩ (.int .u8 (y : Int)))) := run_buf_text hset n hLn.symm
  clear hbuf hset hb3 HBM HSE
  go_upto_region 6 with fail
  generalize World.setCell _ _ _ = w4 at *
  clear hrun hcell hth
  have hcv := HC3.out
  obtain ⟨y0, y1, y2, y3, y4, y5, y6, y7, y8⟩ := inf_cells HB3.out
  go_wp2_with fail
  refine (KQ.out w4 HL3.out).mono ?_
  rintro en w5 ⟨rv, fc, nk, er, hor, rfl, hb5⟩
  have HL5 : Hid (Lo w (w5.alloc (.cells (fmC fc.1 fc.2.1 fc.2.2) 24))) := (HL3.out.trans (hb5.mono HL3.out.size)).alloc (Nat.le_trans HL3.out.size hb5.size) _
  clear hb5 HB3 HL3 HC3 hcv y0 y1 y2 y3 y4 y5 y6 y7 y8 KQ
  go_upto_region 7 with fail
  generalize World.alloc _ _ = w6 at *
  by_cases hz : er = 0
  ·have h1 : (er != 0) = false := by rw [bne_eq_false_iff_eq]; exact hz
   have h2 : (nk != (n : Int)) = true := by
    rw [bne_iff_ne]
    rcases hor with h | h
    ·exact absurd hz h
    ·exact h
   clear hor hz
   go_wp2_with fail
   refine (KAw.out w6 HL5.out).mono ?_
   rintro en wz ⟨rfl, hbz⟩
   have HLz : Hid (Lo w wz) := HL5.out.trans (hbz.mono HL5.out.size)
   clear hbz
   go_wp2_with fail
   go_ret
   exact ⟨rfl, HLz.out⟩
  ·have h1 : (er != 0) = true := by rw [bne_iff_ne]; exact hz
   clear hor hz
   go_wp2_with fail
   refine (KAw.out w6 HL5.out).mono ?_
   rintro en wz ⟨rfl, hbz⟩
   have HLz : Hid (Lo w wz) := HL5.out.trans (hbz.mono HL5.out.size)
   clear hbz
   go_wp2_with fail
   go_ret
   exact ⟨rfl, HLz.out⟩
theorem door_met (os : Os) (args : Array Value) : laidMetH Tryz.prog Rows.frameSpoiltRow.laid ((World.doorLaid Tryz.prog 400 os).forCall (fun _ _ => 0) ⟨#[], args, []⟩).memory :=
 laidMetH_of_parts3 (fuel := 8) (laidMet_of_run' 8 (by kernel_rfl) (by kernel_rfl)) (by kernel_rfl) (by kernel_rfl)
set_option maxRecDepth 100000 in
theorem lifted (os : Os) (started : os.Started) (H : Type) (enc : TypeId × Value -> H) :
  ReturnsInHanded {} Tryz.checked os 7 .any (fun w args => (Rows.frameSpoiltSpec.pre enc Tryz.prog Tryz.f7 [] false w args /\ laidMetH Tryz.prog Rows.frameSpoiltRow.laid w) /\ sizedMet enc Tryz.prog Tryz.f7 (OpenSpec.ofChange Rows.frameSpoiltSpec) false w args)
   (Rows.frameSpoiltSpec.post enc Tryz.prog Tryz.f7 false true false false) := by
 refine returnsInHanded_of_change_and (C := Tryz.checked) (X := fun w _ => laidMetH Tryz.prog Rows.frameSpoiltRow.laid w) (fun _ _ _ hh h => h.of_heap hh) own started (by kernel_rfl) Tryz.func7
  (ChangeSpec.witness_shaped (enc := enc) (C := Tryz.checked) (os := os) (X := fun w _ => laidMetH Tryz.prog Rows.frameSpoiltRow.laid w) false (World.doorLaid Tryz.prog 400 os) #[.string ByteArray.empty, .agg #[.int .i64 0, .int .i64 0, .int .i64 0, .int .i64 0, .int .i64 0, .int .i64 0, .int .i64 0, .int .i64 0, .string ByteArray.empty], .int .i64 0] 8 rfl (World.shaped_of_RefB (by kernel_rfl) (by kernel_rfl)) (by kernel_rfl) (by kernel_rfl) (by kernel_rfl) (door_met os _)) ?_
 intro W base args ds gs before hval0 hW _ hsz0 hL _
 have hval : ∀ (j : Nat) t v, Tryz.f7.params[j]? = some t -> args[j]? = some v -> Value.okWide Tryz.prog W .any base t v := hval0
 have hsz : (DataW.weightsEach Tryz.prog (Tryz.f7.params.toList ++ Rows.frameSpoiltSpec.plain.varTypes Tryz.prog) (ds ++ gs)).all (· <= reachBytes) = true := hsz0
 have hW' := hW
 obtain ⟨p, q, hA0, hV, rfl, hfz, hnd⟩ := hW
 have hA : DataW.TrodAll enc Tryz.prog W 0 (fun _ => true) true Tryz.f7.params.toList args.toList ds p := hA0
 rw [Tryz.params7] at hA hval hsz
 obtain ⟨v0, vs0, d0, ds0, p0, q0, hargs, rfl, rfl, h0, r0⟩ := trodAll_cons hA
 obtain ⟨v1, vs1, d1, ds1, p1, q1, rfl, rfl, rfl, h1, r1⟩ := trodAll_cons r0
 obtain ⟨v2, vs2, d2, ds2, p2, q2, rfl, rfl, rfl, h2, r2⟩ := trodAll_cons r1
 obtain ⟨rfl, rfl, rfl⟩ := trodAll_nil r2
 obtain rfl : args = #[v0, v1, v2] := by cases args; simp_all
 obtain ⟨rfl, rfl⟩ := trodVars_none hV
 have hall := List.all_eq_true.1 hsz
 obtain ⟨x0, rfl, rfl, rfl, i0⟩ := open_string Tryz.underlying9 (hval 0 9 v0 rfl rfl) h0
 have hq0 := sized_string hsz (j := 0) (t := 9) rfl rfl
 have hz0 : x0.size <= 140737488351232 := by
  have e : x0.data.toList.length = x0.size := by rw [Array.length_toList]; rfl
  rw [e] at hq0
  simp only [reachBytes] at hq0
  omega
 have k1 := h1
 have lt1 : ∀ x ∈ p1, x.block < W.heap.size := by obtain ⟨m, hm⟩ := k1; exact DataW.trod_lt m _ _ _ hm
 obtain ⟨a1, b1, c1, dd1, i1, e1, s1, rfl, hi1⟩ := open_info (hval 1 26 v1 rfl rfl) h1
 obtain ⟨x2, rfl, rfl, rfl, i2⟩ := open_int Tryz.underlying3 (hval 2 3 v2 rfl rfl) h2
 have ib2 := bounds_i64 i2
 have hT : Lay W := lay_of_laidS hL
 clear hA0 hval0
 refine (walk x0 hz0 a1 b1 c1 dd1 i1 e1 s1 hi1 x2 ib2.1 ib2.2 W hT).mono fun e W' ⟨he, bel⟩ => ?_
 subst he
 exact ⟨_, rfl, _, _, _, [], _, [], hW', trodAll_mk1 (shut_bool Tryz.underlying4 _), (trodAll_cons_mk (shut_string Tryz.underlying9 i0) (trodAll_cons_mk (Below.trod laidOut (by kernel_rfl) (of_decide_eq_true (by kernel_rfl)) k1 bel lt1) (trodAll_cons_mk (shut_int Tryz.underlying3 i2) trodAll_mk0))), rfl, bel.frame _, fun h => by cases h⟩
theorem said : Rows.FrameSpoiltSaid :=
 OpenClaim.holds_of_wide 7 Tryz.f7 rfl rfl rfl rfl rfl rfl rfl ⟨rfl, rfl, rfl, rfl, rfl⟩ rfl rfl rfl rfl rfl (by kernel_rfl) Tryz.func7 (by kernel_rfl)
  (of_decide_eq_true (by kernel_rfl)) (by unfold Func.isWrapper; first | (rw [if_pos (by decide +kernel)]; kernel_rfl) | (rw [if_neg (by decide +kernel)]; exact ⟨rfl, rfl⟩))
  (fun os started H enc _ => lifted os started H enc)
theorem plain (f : FuncId) (fn : Func) (hf : Tryz.pinned.checked.prog.funcNamed Rows.frameSpoiltRow.func = some f) (hfn : Tryz.pinned.checked.prog.funcs[f]? = some fn) :
  false = Tryz.pinned.checked.prog.looks [] /\ ∀ (j : Nat) t, fn.params[j]? = some t -> Tryz.pinned.checked.prog.wantsStandIn t = false := by
 obtain rfl : f = 7 := Option.some.inj ((show Tryz.prog.funcNamed Rows.frameSpoiltRow.func = some 7 by kernel_rfl).symm.trans hf) |>.symm
 obtain rfl : fn = Tryz.f7 := (Option.some.inj (Tryz.func7.symm.trans hfn)).symm
 refine ⟨by kernel_rfl, fun j t ht => ?_⟩
 rw [Tryz.params7] at ht
 have hm := Array.mem_of_getElem? ht
 simp at hm
 rcases hm with rfl | rfl | rfl
 ·exact (show Tryz.prog.wantsStandIn 9 = false by kernel_rfl)
 ·exact (show Tryz.prog.wantsStandIn 26 = false by kernel_rfl)
 ·exact (show Tryz.prog.wantsStandIn 3 = false by kernel_rfl)
theorem card : Rows.FrameSpoiltCardSaid :=
 Claim7.holds_tied_plain_at .later [] _ _ _ _ said (fun _ h => by cases h) (by kernel_rfl) (fun _ h => by cases h) frameSpoilt_row_tie rfl ⟨rfl, rfl⟩ (by kernel_rfl) rfl plain (by kernel_rfl)
end Go.Proofs.YtfpfabmbipmipaaGreatDoor.frameSpoilt
namespace Go.Proofs.YtfpfabmbipmipaaGreatDoor
theorem frameSpoilt_card : Rows.FrameSpoiltCardSaid := frameSpoilt.card
#print axioms frameSpoilt_card
end Go.Proofs.YtfpfabmbipmipaaGreatDoor
