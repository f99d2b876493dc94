/- Own text. -/
import Derived.Test.YtfpfabmbipmipaaGreatDoorD18
import Derived.ProofKit
import Derived.OpenShut
import Derived.Deep.Slices
import Derived.Lib.SmallJoins
import Derived.ChangeSlices
import Derived.Deep.Matrix
set_option linter.unusedSimpArgs false
set_option linter.unusedVariables false
set_option maxRecDepth 20000
set_option maxHeartbeats 12800000
namespace Go.Proofs.YtfpfabmbipmipaaGreatDoor
open Go.RowKit
abbrev fmC (f : Fm) (so : OA) (sk : Nat) : Array Value := #[.bool f.v, .int .i64 f.num, .int .i64 f.size, .int .i64 f.sc, .int .i64 f.rc, .int .i64 f.wc, .int .i64 f.mo, .slice so f.S.length sk]
abbrev fmV (f : Fm) (so : OA) (sk : Nat) : Value := .agg (fmC f so sk)
def SubIn (w : World) (b o : Nat) (q : Sb) (ca : OA) (cc : Nat) (pa : OA) (pc : Nat) (ea : OA) (ec : Nat) : Prop := w.cell? ⟨b, o, none⟩ = some (.int .i64 q.k) /\ w.cell? ⟨b, o + 1, none⟩ = some (.int .i64 q.o) /\ w.cell? ⟨b, o + 2, none⟩ = some (.int .i64 q.w) /\ w.cell? ⟨b, o + 3, none⟩ = some (.int .i64 q.p) /\ w.cell? ⟨b, o + 4, none⟩ = some (.int .i64 q.h) /\ w.cell? ⟨b, o + 5, none⟩ = some (.slice ca q.C.length cc) /\ w.cell? ⟨b, o + 6, none⟩ = some (.int .i64 q.R.m) /\ w.cell? ⟨b, o + 7, none⟩ = some (.int .i64 q.R.o) /\ w.cell? ⟨b, o + 8, none⟩ = some (.slice pa q.R.P.length pc) /\ w.cell? ⟨b, o + 9, none⟩ = some (.slice ea q.R.E.length ec)
theorem SubIn.keep {w w' : World} {b o : Nat} {q : Sb} {ca : OA} {cc : Nat} {pa : OA} {pc : Nat} {ea : OA} {ec : Nat} (h : SubIn w b o q ca cc pa pc ea ec) (hb : w'.heap[b]? = w.heap[b]?) : SubIn w' b o q ca cc pa pc ea ec := by
 have e : ∀ j, w'.cell? ⟨b, j, none⟩ = w.cell? ⟨b, j, none⟩ := fun j => World.cell?_of_block (w := w) hb
 unfold SubIn at h ⊢
 simp only [e]
 exact h
structure SubsAt (w : World) (so : OA) (S : List Sb) : Prop where
 len : S.length <= 1759218604441
 lies : 0 < S.length -> ∃ b off, so = some ⟨b, off, none⟩ /\ ∀ c, c < S.length -> ∃ ca cc pa pc ea ec, SubIn w b (off + c * 10) (S.getD c Sb0) ca cc pa pc ea ec /\ SbAt w (S.getD c Sb0) ca pa ea /\ ((S.getD c Sb0).C.length <= cc /\ (ca = none -> cc = 0))
theorem SubsAt.below {w w' : World} {so : OA} {S : List Sb} (h : SubsAt w so S) (hb : Lo w w') : SubsAt w' so S := by
 refine ⟨h.len, fun h0 => ?_⟩
 obtain ⟨b, off, e, hc⟩ := h.lies h0
 refine ⟨b, off, e, fun c hl => ?_⟩
 obtain ⟨ca, cc, pa, pc, ea, ec, h1, h2, h3⟩ := hc c hl
 exact ⟨ca, cc, pa, pc, ea, ec, h1.keep (hb.block _ (lt_cell h1.1)), h2.below hb, h3⟩
theorem fm_cells {w : World} {g : Nat} {f : Fm} {so : OA} {sk : Nat} (h : w.heap[g]? = some (.cells (fmC f so sk) 24 (0, 0))) :
  w.cell? ⟨g, 0, none⟩ = some (.bool f.v) /\ w.cell? ⟨g, 1, none⟩ = some (.int .i64 f.num) /\ w.cell? ⟨g, 2, none⟩ = some (.int .i64 f.size) /\ w.cell? ⟨g, 3, none⟩ = some (.int .i64 f.sc) /\ w.cell? ⟨g, 4, none⟩ = some (.int .i64 f.rc) /\ w.cell? ⟨g, 5, none⟩ = some (.int .i64 f.wc) /\ w.cell? ⟨g, 6, none⟩ = some (.int .i64 f.mo) /\ w.cell? ⟨g, 7, none⟩ = some (.slice so f.S.length sk) := by
 refine ⟨?_, ?_, ?_, ?_, ?_, ?_, ?_, ?_⟩ <;> (rw [cell_of_row _ _ _ _ _ _ h]; rfl)
theorem fr_same (f : Fm) (so ro : OA) (sk rk : Nat) (w : World) (h1 : SubsAt w so f.S) (h2 : SubsAt w ro f.S) : Calls Tryz.prog 16 #[fmV f so sk, fmV f ro rk] w fun e w' => e = .returned (.bool true) /\ Lo w w' := by
 have hl := h1.len
 have HA0 : Hid (((w.alloc (.cells (fmC f so sk) 24)).alloc (.cells (fmC f ro rk) 24)).heap[w.heap.size]? = some (.cells (fmC f so sk) 24 (0, 0)) /\ ((w.alloc (.cells (fmC f so sk) 24)).alloc (.cells (fmC f ro rk) 24)).heap[w.heap.size + 1]? = some (.cells (fmC f ro rk) 24 (0, 0)) /\ Lo w ((w.alloc (.cells (fmC f so sk) 24)).alloc (.cells (fmC f ro rk) 24))) := by
  refine ⟨heap_two _ _ _, ?_, aQ.alloc (by simp) _⟩
  have hh := heap_alloc_new (w.alloc (.cells (fmC f so sk) 24)) (.cells (fmC f ro rk) 24);rw [show (w.alloc (.cells (fmC f so sk) 24)).heap.size = w.heap.size + 1 from by simp] at hh
  exact hh
 have H1 := kQ h1
 have H2 := kQ h2
 clear h1 h2
 go_enter Tryz.func16, Tryz.ntmps16
 go_upto_region 1 with fail
 generalize World.alloc _ _ = wa at *
 obtain ⟨z0, z1, z2, z3, z4, z5, z6, z7⟩ := fm_cells HA0.out.1
 obtain ⟨u0, u1, u2, u3, u4, u5, u6, u7⟩ := fm_cells HA0.out.2.1
 go_wp2_with fail
 clear z0 z1 z2 z3 z4 z5 z6 z7 u0 u1 u2 u3 u4 u5 u6 u7
 go_loopw [5] (fun s5 wr => ∃ c : Nat, c <= f.S.length /\ s5 = .int .i64 (c : Int) /\ wr.heap[w.heap.size]? = some (.cells (fmC f so sk) 24 (0, 0)) /\ wr.heap[w.heap.size + 1]? = some (.cells (fmC f ro rk) 24 (0, 0)) /\ Lo w wr) (fun s5 _ => f.S.length - (intOf s5).toNat)
 case atStart => exact ⟨0, Nat.zero_le _, rfl, HA0.out.1, HA0.out.2.1, HA0.out.2.2⟩
 case round =>
  clear HA0;obtain ⟨c, hc, rfl, b1, b2, b3⟩ := hrel;by_cases hlt : c < f.S.length
  ·obtain ⟨sb, sf, rfl, q1⟩ := H1.out.lies (by omega)
   obtain ⟨rb, rf, rfl, q2⟩ := H2.out.lies (by omega)
   obtain ⟨sa, sac, sp, spc, se, sec, m1, m2, m3⟩ := q1 c hlt;obtain ⟨ra, rac, rp, rpc, re, rec_, n1, n2, n3⟩ := q2 c hlt;have hs1 := lt_cell m1.1;have hs2 := lt_cell n1.1;have HS1 := kQ m1;have HS2 := kQ n1;have HK : Hid (∀ wx, Lo w wx -> G1 56 #[subV (f.S.getD c Sb0) sa sac sp spc se sec, subV (f.S.getD c Sb0) ra rac rp rpc re rec_] wx (.bool true)) := fun wx hb => sub_same (f.S.getD c Sb0) sa sac sp spc se sec ra rac rp rpc re rec_ wx (m2.below hb) (n2.below hb);have HD : Hid (wr.drew.heap[w.heap.size]? = some (.cells (fmC f (some ⟨sb, sf, none⟩) sk) 24 (0, 0)) /\ wr.drew.heap[w.heap.size + 1]? = some (.cells (fmC f (some ⟨rb, rf, none⟩) rk) 24 (0, 0)) /\ Lo w wr.drew) := ⟨b1, b2, b3.trans dQ⟩;obtain ⟨z0, z1, z2, z3, z4, z5, z6, z7⟩ := fm_cells b1;obtain ⟨u0, u1, u2, u3, u4, u5, u6, u7⟩ := fm_cells b2;clear q1 q2 m1 m2 m3 n1 n2 n3 b1 b2 b3;generalize f.S.getD c Sb0 = q at *
   go_wp2_with fail
   clear z0 z1 z2 z3 z4 z5 z6 z7 u0 u1 u2 u3 u4 u5 u6 u7;refine wp_region_held_drew (S := fun wx => wx.heap[w.heap.size]? = some (.cells (fmC f (some ⟨sb, sf, none⟩) sk) 24 (0, 0)) /\ wx.heap[w.heap.size + 1]? = some (.cells (fmC f (some ⟨rb, rf, none⟩) rk) 24 (0, 0)) /\ Lo w wx) (by kernel_rfl) HD.out (fun hS => ?_)
   refine vQ 0 (.pointer (some ⟨w.heap.size, 7, none⟩)) hS ?_;simp only [SL];refine uQ 1 (.slice (some ⟨sb, sf, none⟩) f.S.length sk) rfl hS (Or.inl ⟨by rfl, fun w hSw => by obtain ⟨z0, z1, z2, z3, z4, z5, z6, z7⟩ := fm_cells hSw.1; obtain ⟨u0, u1, u2, u3, u4, u5, u6, u7⟩ := fm_cells hSw.2.1; go_simp⟩) ?_
   simp only [SL];refine vQ 2 (.int .i64 (c : Int)) hS ?_;simp only [SL];refine vQ 3 (.pointer (some ⟨sb, sf + c * 10, none⟩)) hS ?_;simp only [SL];refine uQ 4 (subV q sa sac sp spc se sec) rfl hS (Or.inl ⟨by rfl, fun w hSw => by have hk := HS1.out.keep (hSw.2.2.block _ hs1); obtain ⟨x0, x1, x2, x3, x4, x5, x6, x7, x8, x9⟩ := hk; go_simp⟩) ?_
   simp only [SL];refine vQ 5 (.pointer (some ⟨w.heap.size + 1, 7, none⟩)) hS ?_;simp only [SL];refine uQ 6 (.slice (some ⟨rb, rf, none⟩) f.S.length rk) rfl hS (Or.inl ⟨by rfl, fun w hSw => by obtain ⟨z0, z1, z2, z3, z4, z5, z6, z7⟩ := fm_cells hSw.1; obtain ⟨u0, u1, u2, u3, u4, u5, u6, u7⟩ := fm_cells hSw.2.1; go_simp⟩) ?_
   simp only [SL];refine vQ 7 (.int .i64 (c : Int)) hS ?_;simp only [SL];refine vQ 8 (.pointer (some ⟨rb, rf + c * 10, none⟩)) hS ?_;simp only [SL];refine uQ 9 (subV q ra rac rp rpc re rec_) rfl hS (Or.inl ⟨by rfl, fun w hSw => by have hk := HS2.out.keep (hSw.2.2.block _ hs2); obtain ⟨x0, x1, x2, x3, x4, x5, x6, x7, x8, x9⟩ := hk; go_simp⟩) ?_
   simp only [SL];refine wpAnyH_ready (rs := [10]) (by kernel_rfl) (by simp) ?_
   refine AllReadyH.cons rfl (fun K hK => ?_) AllReadyH.nil;go_simp;refine (HK.out _ hS.2.2).mono ?_;rintro e w3 ⟨rfl, hb3⟩;have HD3 : Hid (w3.heap[w.heap.size]? = some (.cells (fmC f (some ⟨sb, sf, none⟩) sk) 24 (0, 0)) /\ w3.heap[w.heap.size + 1]? = some (.cells (fmC f (some ⟨rb, rf, none⟩) rk) 24 (0, 0)) /\ Lo w w3) := ⟨by rw [hb3.block _ (lt_of_block hS.1)]; exact hS.1, by rw [hb3.block _ (lt_of_block hS.2.1)]; exact hS.2.1, hS.2.2.trans (hb3.mono hS.2.2.size)⟩
   refine hK.out _ _ HD3.out (fun hS3 => ?_);clear hK K hb3
   try simp only [SL]
   refine vQ 11 (.bool false) hS3 ?_;simp only [SL];refine wpAnyH_done (by kernel_rfl) ?_ _
   go_wp2_with fail
   go_roundw
   case rel => exact ⟨c + 1, by omega, by go_num, HD3.out.1, HD3.out.2.1, HD3.out.2.2⟩
   case measure => simp [intOf]; omega
  ·obtain ⟨z0, z1, z2, z3, z4, z5, z6, z7⟩ := fm_cells b1
   have HB3 := kQ b3;clear b1 b2 b3
   go_wp2_with fail
   go_ret;exact ⟨rfl, HB3.out⟩
end Go.Proofs.YtfpfabmbipmipaaGreatDoor
namespace Go.Proofs.YtfpfabmbipmipaaGreatDoor
open Go.ChangeShapes Go.WideShapes Go.ChangeAt Go.RowKit Go.Deep
theorem acells3 : Tryz.prog.cellsOf 3 = 1 := by kernel_rfl
theorem acellsI : Tryz.prog.cellsOf 56 = 1 := by kernel_rfl
theorem acellsR : Tryz.prog.cellsOf 65 = 4 := by kernel_rfl
theorem abytes3 : Tryz.prog.bytesOf 3 = 8 := by kernel_rfl
theorem acellsS : Tryz.prog.cellsOf 67 = 10 := by kernel_rfl
section
variable {H : Type} {enc : TypeId × Value -> H} {w : World} {base base2 : Nat} {held : Bool}
theorem at_spot {a : Addr} {v : Value} (h : w.cell? (a.add 0) = some v) : ∃ b off, a = ⟨b, off, none⟩ := by
 obtain ⟨b, off, spot⟩ := a
 cases spot with
 | none => exact ⟨b, off, rfl⟩
 | some x =>
  exfalso
  unfold Addr.add World.cell? at h
  split at h <;> simp at h
theorem open_row {fuel : Nat} {cs : List Value} {x : DataW H × List MemPlace} (h : DataW.trod enc Tryz.prog w base (fun _ => true) held fuel 56 cs = some x) (hw : ∀ n ∈ x.1.weights Tryz.prog 56, n <= reachBytes) :
  ∃ (ao : OA) (cap : Nat) (l : List Int), cs = [.slice ao l.length cap] /\ IntsAt w ao l /\ l.length <= cap /\ (ao = none -> cap = 0) := by
 rcases open_ints Tryz.underlying56 Tryz.underlying3 acells3 h with ⟨rfl, rfl⟩ | ⟨a, len, cap, zs, rfl, _, hl, hm, hz, hx, hc, hwf⟩
 ·exact ⟨none, 0, [], rfl, ⟨by simp, fun n hn => absurd hn (by simp), fun h => absurd h (by simp)⟩, Nat.le_refl _, fun _ => rfl⟩
 ·simp only [if_true] at hz
  rw [hx] at hw;simp only [DataW.weights, Tryz.underlying56] at hw
  have hcap : cap * 8 <= reachBytes := by
   have := hw _ (List.mem_cons_self);rw [abytes3] at this;simp only [lits, List.length_map, List.length_take, List.length_drop] at this;have e : min len zs.length + (zs.length - len) = cap := by omega
   rwa [e] at this
  simp only [reachBytes] at hcap;have hL : (zs.take len).length = len := by rw [List.length_take]; omega
  refine ⟨some a, cap, zs.take len, by rw [hL], ⟨by rw [hL]; omega, fun n hn => bounds_i64 (hwf n (List.mem_of_mem_take hn)), fun h0 => ?_⟩, by rw [hL]; exact hl, fun e => by cases e⟩
  rw [hL] at h0;obtain ⟨b, off, rfl⟩ := at_spot (hc 0 (by omega))
  refine ⟨b, off, rfl, fun j hj => ?_⟩;rw [hL] at hj;have h9 := hc j (by omega)
  rw [Addr.add_mid] at h9;rw [h9];congr 2;rw [List.getD_eq_getElem?_getD, List.getD_eq_getElem?_getD, List.getElem?_take, if_pos hj]
theorem struct7 {P : Program} {t : TypeId} {f0 f1 f2 f3 f4 f5 f6 : Field} {fuel : Nat} {cs : List Value} {x : DataW H × List MemPlace} {spare : Nat -> Bool} (ht : P.underlying t = some (.struct #[f0, f1, f2, f3, f4, f5, f6])) (h : DataW.trod enc P w base spare held fuel t cs = some x) :
  ∃ y0 y1 y2 y3 y4 y5 y6 n, x.1 = .agg [y0.1, y1.1, y2.1, y3.1, y4.1, y5.1, y6.1] /\ cs.length = P.cellsOf t /\ DataW.trod enc P w base spare held n f0.type ((cs.drop f0.offset).take (P.cellsOf f0.type)) = some y0 /\ DataW.trod enc P w base spare held n f1.type ((cs.drop f1.offset).take (P.cellsOf f1.type)) = some y1 /\ DataW.trod enc P w base spare held n f2.type ((cs.drop f2.offset).take (P.cellsOf f2.type)) = some y2 /\ DataW.trod enc P w base spare held n f3.type ((cs.drop f3.offset).take (P.cellsOf f3.type)) = some y3 /\ DataW.trod enc P w base spare held n f4.type ((cs.drop f4.offset).take (P.cellsOf f4.type)) = some y4 /\ DataW.trod enc P w base spare held n f5.type ((cs.drop f5.offset).take (P.cellsOf f5.type)) = some y5 /\ DataW.trod enc P w base spare held n f6.type ((cs.drop f6.offset).take (P.cellsOf f6.type)) = some y6 := by
 obtain ⟨xs, n, _, rfl, hl, hlen, hf⟩ := DataW.trod_struct ht h
 match xs, hlen with
 | [y0, y1, y2, y3, y4, y5, y6], _ => exact ⟨y0, y1, y2, y3, y4, y5, y6, n, by simp, hl, by simpa using hf 0 f0 rfl, by simpa using hf 1 f1 rfl, by simpa using hf 2 f2 rfl, by simpa using hf 3 f3 rfl, by simpa using hf 4 f4 rfl, by simpa using hf 5 f5 rfl, by simpa using hf 6 f6 rfl⟩
theorem open_riceC {fuel : Nat} {cs : List Value} {x : DataW H × List MemPlace} (hf : DataW.trod enc Tryz.prog w base (fun _ => true) held fuel 65 cs = some x) (hw : ∀ n ∈ x.1.weights Tryz.prog 65, n <= reachBytes) :
  ∃ (c : Rc) (pa : OA) (pc : Nat) (ea : OA) (ec : Nat), cs = [.int .i64 c.m, .int .i64 c.o, .slice pa c.P.length pc, .slice ea c.E.length ec] /\ RcAt w c pa ea := by
 obtain ⟨y0, y1, y2, y3, m, hx, hl, h0, h1, h2, h3⟩ := Joins.trod_struct4 Tryz.underlying65 hf
 rw [acellsR] at hl
 obtain ⟨z0, e0, f0, q0⟩ := DataW.trod_int Tryz.underlying3 h0
 obtain ⟨z1, e1, f1, q1⟩ := DataW.trod_int Tryz.underlying3 h1
 have hd : x.1 = .agg [y0.1, y1.1, y2.1, y3.1] := by rw [hx]
 have hw2 : ∀ n ∈ y2.1.weights Tryz.prog 56, n <= reachBytes := fun n hn => by
  apply hw;rw [hd];simp only [DataW.weights, Tryz.underlying65, List.map_cons, List.map_nil, DataW.weightsEach, List.toList_toArray];simp only [List.mem_append];exact .inr (.inr (.inl hn))
 have hw3 : ∀ n ∈ y3.1.weights Tryz.prog 56, n <= reachBytes := fun n hn => by
  apply hw;rw [hd];simp only [DataW.weights, Tryz.underlying65, List.map_cons, List.map_nil, DataW.weightsEach, List.toList_toArray];simp only [List.mem_append];exact .inr (.inr (.inr (.inl hn)))
 obtain ⟨pa, pc, P, hP, iP, _, _⟩ := open_row h2 hw2
 obtain ⟨ea, ec, E, hE, iE, _, _⟩ := open_row h3 hw3
 match cs, hl with
 | [c0, c1, c2, c3], _ =>
  simp [acells3] at e0 e1;simp [acells3, acellsI] at hP hE;subst e0 e1 hP hE;exact ⟨⟨z0, z1, P, E⟩, pa, pc, ea, ec, rfl, ⟨iP, iE, (bounds_i64 q0).1, (bounds_i64 q0).2, (bounds_i64 q1).1, (bounds_i64 q1).2⟩⟩
end
theorem acellsB : Tryz.prog.cellsOf 22 = 1 := by kernel_rfl
theorem abytesS : Tryz.prog.bytesOf 67 = 128 := by kernel_rfl
theorem weights_all {H : Type} (P : Program) (e : TypeId) : ∀ (l : List (DataW H)) (d : DataW H), d ∈ l -> ∀ n ∈ d.weights P e, n ∈ DataW.weightsAll P e l
 | [], d, h, n, hn => by cases h
 | x :: r, d, h, n, hn => by
  have e1 : DataW.weightsAll P e (x :: r) = x.weights P e ++ DataW.weightsAll P e r := rfl;rw [e1]
  rcases List.mem_cons.1 h with h | h
  ·subst h
   exact List.mem_append.2 (.inl hn)
  ·exact List.mem_append.2 (.inr (weights_all P e r d h n hn))
section
variable {H : Type} {enc : TypeId × Value -> H} {w : World} {base base2 : Nat} {held : Bool}
theorem open_subC {fuel : Nat} {cs : List Value} {x : DataW H × List MemPlace} (hf : DataW.trod enc Tryz.prog w base (fun _ => true) held fuel 67 cs = some x) (hw : ∀ n ∈ x.1.weights Tryz.prog 67, n <= reachBytes) :
  ∃ (s : Sb) (ca : OA) (cc : Nat) (pa : OA) (pc : Nat) (ea : OA) (ec : Nat), cs = [.int .i64 s.k, .int .i64 s.o, .int .i64 s.w, .int .i64 s.p, .int .i64 s.h, .slice ca s.C.length cc, .int .i64 s.R.m, .int .i64 s.R.o, .slice pa s.R.P.length pc, .slice ea s.R.E.length ec] /\ SbAt w s ca pa ea /\ s.C.length <= cc /\ (ca = none -> cc = 0) := by
 obtain ⟨y0, y1, y2, y3, y4, y5, y6, m, hd, hl, h0, h1, h2, h3, h4, h5, h6⟩ := struct7 Tryz.underlying67 hf
 rw [acellsS] at hl
 obtain ⟨z0, e0, _, q0⟩ := DataW.trod_int Tryz.underlying3 h0
 obtain ⟨z1, e1, _, q1⟩ := DataW.trod_int Tryz.underlying3 h1
 obtain ⟨z2, e2, _, q2⟩ := DataW.trod_int Tryz.underlying3 h2
 obtain ⟨z3, e3, _, q3⟩ := DataW.trod_int Tryz.underlying3 h3
 obtain ⟨z4, e4, _, q4⟩ := DataW.trod_int Tryz.underlying3 h4
 have hw5 : ∀ n ∈ y5.1.weights Tryz.prog 56, n <= reachBytes := fun n hn => by
  apply hw;rw [hd];simp only [DataW.weights, Tryz.underlying67, List.map_cons, List.map_nil, DataW.weightsEach, List.toList_toArray];simp only [List.mem_append];exact .inr (.inr (.inr (.inr (.inr (.inl hn)))))
 have hw6 : ∀ n ∈ y6.1.weights Tryz.prog 65, n <= reachBytes := fun n hn => by
  apply hw;rw [hd];simp only [DataW.weights, Tryz.underlying67, List.map_cons, List.map_nil, DataW.weightsEach, List.toList_toArray];simp only [List.mem_append];exact .inr (.inr (.inr (.inr (.inr (.inr (.inl hn))))))
 obtain ⟨ca, cc, C, hC, iC, c1, c2⟩ := open_row h5 hw5
 obtain ⟨c, pa, pc, ea, ec, hR, iR⟩ := open_riceC h6 hw6
 match cs, hl with
 | [k0, k1, k2, k3, k4, k5, k6, k7, k8, k9], _ =>
  simp [acells3] at e0 e1 e2 e3 e4;simp [acellsI] at hC;simp [acellsR] at hR;obtain ⟨r0, r1, r2, r3⟩ := hR;subst e0 e1 e2 e3 e4 hC r0 r1 r2 r3;exact ⟨⟨z0, z1, z2, z3, z4, C, c⟩, ca, cc, pa, pc, ea, ec, rfl, ⟨iC, iR, bounds_i64 q0, bounds_i64 q1, bounds_i64 q2, bounds_i64 q3, bounds_i64 q4⟩, c1, c2⟩
theorem open_subs {fuel : Nat} {cs : List Value} {x : DataW H × List MemPlace} (h : DataW.trod enc Tryz.prog w base (fun _ => true) held fuel 22 cs = some x) (hw : ∀ n ∈ x.1.weights Tryz.prog 22, n <= reachBytes) :
  ∃ (so : OA) (sk : Nat) (S : List Sb), cs = [.slice so S.length sk] /\ SubsAt w so S /\ (S.length <= sk /\ (so = none -> sk = 0)) := by
 rcases open_slice Tryz.underlying22 h with ⟨hcs, _⟩ | ⟨a, len, cap, m, n, D, Pl, hcs, _, hl, hm, hmm, hd, hx⟩
 ·exact ⟨none, 0, [], hcs, ⟨by simp, fun h => by simp at h⟩, by simp, fun _ => rfl⟩
 ·simp only [if_true] at hmm
  subst hmm;rw [acellsS] at hx;have hd1 : x.1 = DataW.slice (List.map D (List.range len)) (List.map (fun j => D (len + j)) (List.range (m - len))) := congrArg Prod.fst hd;rw [hd1] at hw;simp only [DataW.weights, Tryz.underlying22] at hw
  have hcap : m * 128 <= reachBytes := by
   have := hw _ (List.mem_cons_self);rw [abytesS] at this;simp only [List.length_map, List.length_range] at this;have e : len + (m - len) = m := by omega
   rwa [e] at this
  simp only [reachBytes] at hcap
  have hall : ∀ i, ∃ s : Sb, i < len -> ∃ (ca : OA) (cc : Nat) (pa : OA) (pc : Nat) (ea : OA) (ec : Nat), (∀ j, j < 10 -> w.cell? (a.add (i * 10 + j)) = ([.int .i64 s.k, .int .i64 s.o, .int .i64 s.w, .int .i64 s.p, .int .i64 s.h, .slice ca s.C.length cc, .int .i64 s.R.m, .int .i64 s.R.o, .slice pa s.R.P.length pc, .slice ea s.R.E.length ec] : List Value)[j]?) /\ SbAt w s ca pa ea /\ s.C.length <= cc /\ (ca = none -> cc = 0) := fun i => by
   by_cases hi : i < len
   ·obtain ⟨cs', h1, h2⟩ := hx i (by omega)
    have hwi : ∀ n ∈ (D i).weights Tryz.prog 67, n <= reachBytes := fun n hn => by
     apply hw;refine List.mem_cons_of_mem _ ?_;refine List.mem_append.2 (.inl ?_);exact weights_all Tryz.prog 67 _ (D i) (List.mem_map.2 ⟨i, List.mem_range.2 hi, rfl⟩) n hn
    obtain ⟨s, ca, cc, pa, pc, ea, ec, hcs', r1, r2, r3⟩ := open_subC h2 hwi;obtain ⟨_, hlen, hcell⟩ := World.cells?_some h1;refine ⟨s, fun _ => ⟨ca, cc, pa, pc, ea, ec, fun j hj => ?_, r1, r2, r3⟩⟩;have := hcell j hj;rw [add_add, hcs'] at this;exact this
   ·exact ⟨Sb0, fun h => absurd h hi⟩
  obtain ⟨f, hf⟩ := Classical.axiomOfChoice hall;have hlen : ((List.range len).map f).length = len := by simp
  have hget : ∀ i, i < len -> ((List.range len).map f).getD i Sb0 = f i := fun i hi => by simp [List.getD_eq_getElem?_getD, hi]
  refine ⟨some a, m, (List.range len).map f, by rw [hlen]; exact hcs, ⟨by rw [hlen]; omega, fun h0 => ?_⟩, by rw [hlen]; omega, fun e => by cases e⟩
  rw [hlen] at h0;obtain ⟨ca, cc, pa, pc, ea, ec, hc0, _⟩ := hf 0 h0;have g0 := hc0 0 (by decide)
  rw [Nat.zero_mul, Nat.zero_add] at g0;obtain ⟨b, off, rfl⟩ := at_spot g0;refine ⟨b, off, rfl, fun i hi => ?_⟩;rw [hlen] at hi;rw [hget i hi];obtain ⟨ca, cc, pa, pc, ea, ec, hc, r1, r2, r3⟩ := hf i hi;refine ⟨ca, cc, pa, pc, ea, ec, ?_, r1, r2, r3⟩
  have hcell : ∀ j, j < 10 -> w.cell? ⟨b, off + i * 10 + j, none⟩ = ([.int .i64 (f i).k, .int .i64 (f i).o, .int .i64 (f i).w, .int .i64 (f i).p, .int .i64 (f i).h, .slice ca (f i).C.length cc, .int .i64 (f i).R.m, .int .i64 (f i).R.o, .slice pa (f i).R.P.length pc, .slice ea (f i).R.E.length ec] : List Value)[j]? := fun j hj => by
   have := hc j hj;rw [Addr.add_mid, <- Nat.add_assoc] at this;exact this
  unfold SubIn;refine ⟨?_, ?_, ?_, ?_, ?_, ?_, ?_, ?_, ?_, ?_⟩
  ·exact hcell 0 (by decide)
  ·exact hcell 1 (by decide)
  ·exact hcell 2 (by decide)
  ·exact hcell 3 (by decide)
  ·exact hcell 4 (by decide)
  ·exact hcell 5 (by decide)
  ·exact hcell 6 (by decide)
  ·exact hcell 7 (by decide)
  ·exact hcell 8 (by decide)
  ·exact hcell 9 (by decide)
end
end Go.Proofs.YtfpfabmbipmipaaGreatDoor
namespace Go.Proofs.YtfpfabmbipmipaaGreatDoor
open Go.RowKit
structure RowsAt (w : World) (ao : OA) (xs : List (List Int)) : Prop where
 len : xs.length <= 5864062014805
 lies : 0 < xs.length -> ∃ b off, ao = some ⟨b, off, none⟩ /\ ∀ i, i < xs.length -> ∃ a c, w.cell? ⟨b, off + i, none⟩ = some (.slice a (xs.getD i []).length c) /\ (xs.getD i []).length <= c /\ (a = none -> c = 0) /\ IntsAt w a (xs.getD i [])
theorem RowsAt.below {w w' : World} {ao : OA} {xs : List (List Int)} (h : RowsAt w ao xs) (hb : Lo w w') : RowsAt w' ao xs := by
 refine ⟨h.len, fun h0 => ?_⟩
 obtain ⟨b, off, e, hc⟩ := h.lies h0
 refine ⟨b, off, e, fun i hi => ?_⟩
 obtain ⟨a, c, h1, h2, h3, h4⟩ := hc i hi
 exact ⟨a, c, by rw [World.cell?_of_block (w := w) (hb.block _ (lt_cell h1))]; exact h1, h2, h3, h4.below hb⟩
end Go.Proofs.YtfpfabmbipmipaaGreatDoor
namespace Go.Proofs.YtfpfabmbipmipaaGreatDoor
open Go.ChangeShapes Go.WideShapes Go.ChangeAt Go.RowKit Go.Deep
theorem acells4 : Tryz.prog.cellsOf 4 = 1 := by kernel_rfl
theorem acells9 : Tryz.prog.cellsOf 9 = 1 := by kernel_rfl
theorem acellsF : Tryz.prog.cellsOf 24 = 8 := by kernel_rfl
theorem acellsN : Tryz.prog.cellsOf 26 = 9 := by kernel_rfl
theorem abytesI : Tryz.prog.bytesOf 56 = 24 := by kernel_rfl
abbrev infV (a b c d : Int) (i : Inf) (e : Int) (s : ByteArray) : Value := .agg #[.int .i64 a, .int .i64 b, .int .i64 c, .int .i64 d, .int .i64 i.rate, .int .i64 i.ch, .int .i64 i.wd, .int .i64 e, .string s]
structure FmAt (w : World) (f : Fm) (so : OA) (sk : Nat) : Prop where
 S : SubsAt w so f.S
 sk_ : f.S.length <= sk /\ (so = none -> sk = 0)
 num : I64 f.num
 size : I64 f.size
 sc : I64 f.sc
 rc : I64 f.rc
 wc : I64 f.wc
 mo : I64 f.mo
section
variable {H : Type} {enc : TypeId × Value -> H} {w : World} {base base2 : Nat} {held : Bool}
theorem struct8 {P : Program} {t : TypeId} {f0 f1 f2 f3 f4 f5 f6 f7 : Field} {fuel : Nat} {cs : List Value} {x : DataW H × List MemPlace} {spare : Nat -> Bool} (ht : P.underlying t = some (.struct #[f0, f1, f2, f3, f4, f5, f6, f7])) (h : DataW.trod enc P w base spare held fuel t cs = some x) :
  ∃ y0 y1 y2 y3 y4 y5 y6 y7 n, x.1 = .agg [y0.1, y1.1, y2.1, y3.1, y4.1, y5.1, y6.1, y7.1] /\ cs.length = P.cellsOf t /\ DataW.trod enc P w base spare held n f0.type ((cs.drop f0.offset).take (P.cellsOf f0.type)) = some y0 /\ DataW.trod enc P w base spare held n f1.type ((cs.drop f1.offset).take (P.cellsOf f1.type)) = some y1 /\ DataW.trod enc P w base spare held n f2.type ((cs.drop f2.offset).take (P.cellsOf f2.type)) = some y2 /\ DataW.trod enc P w base spare held n f3.type ((cs.drop f3.offset).take (P.cellsOf f3.type)) = some y3 /\ DataW.trod enc P w base spare held n f4.type ((cs.drop f4.offset).take (P.cellsOf f4.type)) = some y4 /\ DataW.trod enc P w base spare held n f5.type ((cs.drop f5.offset).take (P.cellsOf f5.type)) = some y5 /\ DataW.trod enc P w base spare held n f6.type ((cs.drop f6.offset).take (P.cellsOf f6.type)) = some y6 /\ DataW.trod enc P w base spare held n f7.type ((cs.drop f7.offset).take (P.cellsOf f7.type)) = some y7 := by
 obtain ⟨xs, n, _, rfl, hl, hlen, hf⟩ := DataW.trod_struct ht h
 match xs, hlen with
 | [y0, y1, y2, y3, y4, y5, y6, y7], _ => exact ⟨y0, y1, y2, y3, y4, y5, y6, y7, n, by simp, hl, by simpa using hf 0 f0 rfl, by simpa using hf 1 f1 rfl, by simpa using hf 2 f2 rfl, by simpa using hf 3 f3 rfl, by simpa using hf 4 f4 rfl, by simpa using hf 5 f5 rfl, by simpa using hf 6 f6 rfl, by simpa using hf 7 f7 rfl⟩
theorem struct9 {P : Program} {t : TypeId} {f0 f1 f2 f3 f4 f5 f6 f7 f8 : Field} {fuel : Nat} {cs : List Value} {x : DataW H × List MemPlace} {spare : Nat -> Bool} (ht : P.underlying t = some (.struct #[f0, f1, f2, f3, f4, f5, f6, f7, f8])) (h : DataW.trod enc P w base spare held fuel t cs = some x) :
  ∃ y0 y1 y2 y3 y4 y5 y6 y7 y8 n, x.1 = .agg [y0.1, y1.1, y2.1, y3.1, y4.1, y5.1, y6.1, y7.1, y8.1] /\ cs.length = P.cellsOf t /\ DataW.trod enc P w base spare held n f0.type ((cs.drop f0.offset).take (P.cellsOf f0.type)) = some y0 /\ DataW.trod enc P w base spare held n f1.type ((cs.drop f1.offset).take (P.cellsOf f1.type)) = some y1 /\ DataW.trod enc P w base spare held n f2.type ((cs.drop f2.offset).take (P.cellsOf f2.type)) = some y2 /\ DataW.trod enc P w base spare held n f3.type ((cs.drop f3.offset).take (P.cellsOf f3.type)) = some y3 /\ DataW.trod enc P w base spare held n f4.type ((cs.drop f4.offset).take (P.cellsOf f4.type)) = some y4 /\ DataW.trod enc P w base spare held n f5.type ((cs.drop f5.offset).take (P.cellsOf f5.type)) = some y5 /\ DataW.trod enc P w base spare held n f6.type ((cs.drop f6.offset).take (P.cellsOf f6.type)) = some y6 /\ DataW.trod enc P w base spare held n f7.type ((cs.drop f7.offset).take (P.cellsOf f7.type)) = some y7 /\ DataW.trod enc P w base spare held n f8.type ((cs.drop f8.offset).take (P.cellsOf f8.type)) = some y8 := by
 obtain ⟨xs, n, _, rfl, hl, hlen, hf⟩ := DataW.trod_struct ht h
 match xs, hlen with
 | [y0, y1, y2, y3, y4, y5, y6, y7, y8], _ => exact ⟨y0, y1, y2, y3, y4, y5, y6, y7, y8, n, by simp, hl, by simpa using hf 0 f0 rfl, by simpa using hf 1 f1 rfl, by simpa using hf 2 f2 rfl, by simpa using hf 3 f3 rfl, by simpa using hf 4 f4 rfl, by simpa using hf 5 f5 rfl, by simpa using hf 6 f6 rfl, by simpa using hf 7 f7 rfl, by simpa using hf 8 f8 rfl⟩
theorem open_frame {r : Reach} {v : Value} {d : DataW H} {q : List MemPlace} (hv : Value.okWide Tryz.prog w r base2 24 v) (h : DataW.Trod enc Tryz.prog w base (fun _ => true) held 24 v d q) (hw : ∀ n ∈ d.weights Tryz.prog 24, n <= reachBytes) :
  ∃ (f : Fm) (so : OA) (sk : Nat), v = fmV f so sk /\ FmAt w f so sk := by
 obtain ⟨cs, rfl, hs⟩ := okWide_struct Tryz.underlying24 hv
 obtain ⟨fuel, hf⟩ := h
 obtain ⟨y0, y1, y2, y3, y4, y5, y6, y7, m, hd, hl, h0, h1, h2, h3, h4, h5, h6, h7⟩ := struct8 Tryz.underlying24 hf
 rw [acellsF] at hl
 obtain ⟨z0, e0, _⟩ := DataW.trod_bool Tryz.underlying4 h0
 obtain ⟨z1, e1, _, q1⟩ := DataW.trod_int Tryz.underlying3 h1
 obtain ⟨z2, e2, _, q2⟩ := DataW.trod_int Tryz.underlying3 h2
 obtain ⟨z3, e3, _, q3⟩ := DataW.trod_int Tryz.underlying3 h3
 obtain ⟨z4, e4, _, q4⟩ := DataW.trod_int Tryz.underlying3 h4
 obtain ⟨z5, e5, _, q5⟩ := DataW.trod_int Tryz.underlying3 h5
 obtain ⟨z6, e6, _, q6⟩ := DataW.trod_int Tryz.underlying3 h6
 have hd' : d = .agg [y0.1, y1.1, y2.1, y3.1, y4.1, y5.1, y6.1, y7.1] := hd
 have hw7 : ∀ n ∈ y7.1.weights Tryz.prog 22, n <= reachBytes := fun n hn => by
  apply hw;rw [hd'];simp only [DataW.weights, Tryz.underlying24, List.map_cons, List.map_nil, DataW.weightsEach, List.toList_toArray];simp only [List.mem_append];exact .inr (.inr (.inr (.inr (.inr (.inr (.inr (.inl hn)))))))
 obtain ⟨so, sk, S, hS, iS, c1⟩ := open_subs h7 hw7
 obtain ⟨cl⟩ := cs
 match cl, hl with
 | [k0, k1, k2, k3, k4, k5, k6, k7], _ =>
  simp [acells4, Value.cells] at e0;simp [acells3, Value.cells] at e1 e2 e3 e4 e5 e6;simp [acellsB, Value.cells] at hS;subst e0 e1 e2 e3 e4 e5 e6 hS;exact ⟨⟨z0, z1, z2, z3, z4, z5, z6, S⟩, so, sk, rfl, ⟨iS, c1, bounds_i64 q1, bounds_i64 q2, bounds_i64 q3, bounds_i64 q4, bounds_i64 q5, bounds_i64 q6⟩⟩
theorem open_info {r : Reach} {v : Value} {d : DataW H} {q : List MemPlace} (hv : Value.okWide Tryz.prog w r base2 26 v) (h : DataW.Trod enc Tryz.prog w base (fun _ => true) held 26 v d q) :
  ∃ (a b c d : Int) (i : Inf) (e : Int) (s : ByteArray), v = infV a b c d i e s /\ I64 i.rate /\ I64 i.ch /\ I64 i.wd := by
 obtain ⟨cs, rfl, hs⟩ := okWide_struct Tryz.underlying26 hv
 obtain ⟨fuel, hf⟩ := h
 obtain ⟨y0, y1, y2, y3, y4, y5, y6, y7, y8, m, hd, hl, h0, h1, h2, h3, h4, h5, h6, h7, h8⟩ := struct9 Tryz.underlying26 hf
 rw [acellsN] at hl
 obtain ⟨z0, e0, _, q0⟩ := DataW.trod_int Tryz.underlying3 h0
 obtain ⟨z1, e1, _, q1⟩ := DataW.trod_int Tryz.underlying3 h1
 obtain ⟨z2, e2, _, q2⟩ := DataW.trod_int Tryz.underlying3 h2
 obtain ⟨z3, e3, _, q3⟩ := DataW.trod_int Tryz.underlying3 h3
 obtain ⟨z4, e4, _, q4⟩ := DataW.trod_int Tryz.underlying3 h4
 obtain ⟨z5, e5, _, q5⟩ := DataW.trod_int Tryz.underlying3 h5
 obtain ⟨z6, e6, _, q6⟩ := DataW.trod_int Tryz.underlying3 h6
 obtain ⟨z7, e7, _, q7⟩ := DataW.trod_int Tryz.underlying3 h7
 obtain ⟨z8, e8, _⟩ := DataW.trod_string Tryz.underlying9 h8
 obtain ⟨cl⟩ := cs
 match cl, hl with
 | [k0, k1, k2, k3, k4, k5, k6, k7, k8], _ =>
  simp [acells3, Value.cells] at e0 e1 e2 e3 e4 e5 e6 e7;simp [acells9, Value.cells] at e8;subst e0 e1 e2 e3 e4 e5 e6 e7 e8;exact ⟨z0, z1, z2, z3, ⟨z4, z5, z6⟩, z7, z8, rfl, bounds_i64 q4, bounds_i64 q5, bounds_i64 q6⟩
theorem open_planes {fuel : Nat} {cs : List Value} {x : DataW H × List MemPlace} (h : DataW.trod enc Tryz.prog w base (fun _ => true) held fuel 27 cs = some x) (hw : ∀ n ∈ x.1.weights Tryz.prog 27, n <= reachBytes) :
  ∃ (ao : OA) (cap : Nat) (xs : List (List Int)), cs = [.slice ao xs.length cap] /\ RowsAt w ao xs := by
 rcases open_int_rows Tryz.underlying27 Tryz.underlying56 Tryz.underlying3 acellsI acells3 h with ⟨rfl, rfl⟩ | ⟨a, len, cap, A, L, C, Z, rfl, _, hl, hm, hx, hrow⟩
 ·exact ⟨none, 0, [], rfl, ⟨by simp, fun h => by simp at h⟩⟩
 ·have hlen : ((List.range len).map fun r => (Z r).take (L r)).length = len := by simp
  have hget : ∀ i, i < len -> ((List.range len).map fun r => (Z r).take (L r)).getD i [] = (Z i).take (L i) := fun i hi => by simp [List.getD_eq_getElem?_getD, hi]
  rw [hx] at hw;simp only [DataW.weights, Tryz.underlying27] at hw
  have hcap : cap * 24 <= reachBytes := by
   have := hw _ (List.mem_cons_self);rw [abytesI] at this;simp only [List.length_map, List.length_range] at this;have e : len + (cap - len) = cap := by omega
   rwa [e] at this
  simp only [reachBytes] at hcap;refine ⟨some a, cap, (List.range len).map fun r => (Z r).take (L r), by rw [hlen], ⟨by rw [hlen]; omega, fun h0 => ?_⟩⟩
  rw [hlen] at h0;obtain ⟨b, off, rfl⟩ := at_spot (hrow 0 (by omega)).1
  refine ⟨b, off, rfl, fun i hi => ?_⟩;rw [hlen] at hi;rw [hget i hi];obtain ⟨h1, h2, h3, h4, h5, h6, h7⟩ := hrow i (by omega)
  have hL : ((Z i).take (L i)).length = L i := by rw [List.length_take]; omega
  rw [hL];rw [add_plain] at h1
  have hC : C i * 8 <= reachBytes := by
   cases hA : A i with
   | none =>
    rw [h6 hA];exact Nat.zero_le _
   | some a' =>
    have hmem : intRow (H := H) .i64 (A i) (L i) (Z i) ∈ (List.range len).map fun r => intRow (H := H) .i64 (A r) (L r) (Z r) := List.mem_map.2 ⟨i, List.mem_range.2 hi, rfl⟩
    have hwt : C i * 8 ∈ (intRow (H := H) .i64 (A i) (L i) (Z i)).weights Tryz.prog 56 := by
     rw [hA];simp only [intRow, DataW.weights, Tryz.underlying56];rw [abytes3]
     have e : (lits (H := H) .i64 ((Z i).take (L i))).length + (lits (H := H) .i64 ((Z i).drop (L i))).length = C i := by
      simp only [lits, List.length_map, List.length_take, List.length_drop];omega
     rw [e];exact List.mem_cons_self
    exact hw _ (List.mem_cons.2 (.inr (List.mem_append.2 (.inl (weights_all _ _ _ _ hmem _ hwt)))))
  simp only [reachBytes] at hC;refine ⟨A i, C i, h1, h2, h6, ⟨by rw [hL]; omega, fun n hn => bounds_i64 (h5 n (List.mem_of_mem_take hn)), fun h0' => ?_⟩⟩
  rw [hL] at h0'
  cases hA : A i with
  | none =>
   have := h6 hA;omega
  | some a' =>
   obtain ⟨_, h8⟩ := h7 a' hA;obtain ⟨b', off', rfl⟩ := at_spot (h8 0 (by omega))
   refine ⟨b', off', rfl, fun j hj => ?_⟩;rw [hL] at hj;have h9 := h8 j (by omega)
   rw [add_plain] at h9;rw [h9];congr 2;rw [List.getD_eq_getElem?_getD, List.getD_eq_getElem?_getD, List.getElem?_take, if_pos hj]
theorem open_rows {r : Reach} {v : Value} {d : DataW H} {q : List MemPlace} (hv : Value.okWide Tryz.prog w r base2 27 v) (h : DataW.Trod enc Tryz.prog w base (fun _ => true) held 27 v d q) (hw : ∀ n ∈ d.weights Tryz.prog 27, n <= reachBytes) :
  ∃ (ao : OA) (cap : Nat) (xs : List (List Int)), v = .slice ao xs.length cap /\ RowsAt w ao xs := by
 obtain ⟨ao, len, cap, rfl⟩ := okWide_slice Tryz.underlying27 hv
 obtain ⟨fuel, hf⟩ := h
 obtain ⟨ao2, cap2, xs, hc, h2⟩ := open_planes hf hw
 have e : (Value.slice ao len cap) = .slice ao2 xs.length cap2 := by
  have : ([Value.slice ao len cap] : List Value) = [.slice ao2 xs.length cap2] := hc;injection this
 exact ⟨ao2, cap2, xs, e, h2⟩
end
end Go.Proofs.YtfpfabmbipmipaaGreatDoor
