/- Own text. -/
import Derived.Test.YtfpfabmbipmipaaGreatDoorD8
set_option linter.unusedSimpArgs false
set_option linter.unusedVariables false
set_option maxRecDepth 20000
set_option maxHeartbeats 12800000
namespace Go.Proofs.YtfpfabmbipmipaaGreatDoor
open Go.RowKit
def Apart (p : Nat) (ao xo : OA) (l : List Int) : Prop := 0 < l.length -> ∀ b, blockOf xo = some b -> ¬ foot p ao b
theorem IntsAt.none_ {w w' : World} {xo : OA} {l : List Int} (h : IntsAt w xo l) (h0 : ¬ 0 < l.length) : IntsAt w' xo l := ⟨h.len, h.num, fun hh => absurd hh h0⟩
theorem Apart.moved {p : Nat} {ao aj xo : OA} {l : List Int} {w : World} (ha : Apart p ao xo l) (hx : IntsAt w xo l) (hm : Moved w.heap.size ao aj) : Apart p aj xo l := fun h0 b hb hf => by
 rcases hf with hf | hf
 ·exact ha h0 b hb (Or.inl hf)
 ·rcases hm b hf with h1 | h1
  ·exact ha h0 b hb (Or.inr h1)
  ·obtain ⟨bb, off, rfl, hc⟩ := hx.lies h0
   have hbb : bb = b := by simpa [blockOf] using hb
   have h2 : bb < w.heap.size := lt_cell (hc 0 h0);omega
theorem Apart.part {p : Nat} {ao lo xo : OA} {l X : List Int} (ha : Apart p ao lo l) (hx : ∀ b, blockOf xo = some b -> blockOf lo = some b) (hl : 0 < X.length -> 0 < l.length) : Apart p ao xo X := fun h0 b hb => ha (hl h0) b (hx b hb)
structure WB (w : World) (p : Nat) (ao0 ao : OA) (B : List Nat) (K : Nat) (wx : World) : Prop where
 wr : WrB wx p ao B
 st : Stays (foot p ao0) w wx
 mv : Moved w.heap.size ao0 ao
 hp : p < w.heap.size
 nb : ∀ b, blockOf ao = some b -> ¬ (w.heap.size <= b /\ b < K)
 kk : K <= wx.heap.size
section
variable {w wx w' : World} {p : Nat} {ao0 ao ao' : OA} {B B' : List Nat} {K : Nat}
theorem WB.start (hw : WrB w p ao B) (hb : Lo w wx) (K : Nat) (hK : K <= wx.heap.size) : WB w p ao ao B K wx :=
 ⟨hw.below hb, Stays.of_below hb _, Moved.refl _ _, hw.lt, fun b hb' h => by have := hw.blocks b hb'; omega, hK⟩
theorem WB.low (h : WB w p ao0 ao B K wx) (hb : Lo wx w') : WB w p ao0 ao B K w' :=
 ⟨h.wr.below hb, h.st.trans (Stays.of_below hb (foot p ao0)) (fun _ _ h => h), h.mv, h.hp, h.nb, Nat.le_trans h.kk hb.size⟩
theorem WB.put (h : WB w p ao0 ao B K wx) (hw : WrB w' p ao' B') (hS : Stays (foot p ao) wx w') (hM : Moved wx.heap.size ao ao') : WB w p ao0 ao' B' K w' :=
 ⟨hw, h.st.foot hS h.mv, h.mv.trans hM h.st.size, h.hp, fun b hb hh => by
  rcases hM b hb with h1 | h1
  ·exact h.nb b h1 hh
  ·have := h.kk; omega, Nat.le_trans h.kk hS.size⟩
theorem WB.box (h : WB w p ao0 ao B K wx) (hS : Stays (foot p ao) wx w') (i : Nat) (h1 : w.heap.size <= i) (h2 : i < K) : w'.heap[i]? = wx.heap[i]? :=
 hS.block i (by have := h.kk; omega) (fun hf => by
  rcases hf with hf | hf
  ·have := h.hp; omega
  ·exact h.nb i hf ⟨h1, h2⟩)
theorem WB.ints {xo : OA} {l : List Int} (h : WB w p ao0 ao B K wx) (hl : IntsAt w xo l) (ha : Apart p ao0 xo l) : IntsAt wx xo l := by
 by_cases h0 : 0 < l.length
 ·exact hl.stays h.st (ha h0)
 ·exact hl.none_ h0
end
theorem results_none {fn : Func} (h : fn.results = #[]) (tmps : Array Value) (P : Program) (w : World) : (results fn tmps).run P w = .ok (.tuple #[]) w := by
 simp only [results, h]
 simp [Sem.run_bind, Result.andThen]
theorem RB.of_box {w wx : World} {c : Rc} {pa : OA} {pc : Nat} {ea : OA} {ec : Nat} (h : wx.heap[w.heap.size]? = some (.cells (riceC c pa pc ea ec) 65 (0, 0))) :
  wx.cell? ⟨w.heap.size, 0, none⟩ = some (.int .i64 c.m) /\ wx.cell? ⟨w.heap.size, 1, none⟩ = some (.int .i64 c.o) /\ wx.cell? ⟨w.heap.size, 2, none⟩ = some (.slice pa c.P.length pc) /\ wx.cell? ⟨w.heap.size, 3, none⟩ = some (.slice ea c.E.length ec) := by
 refine ⟨?_, ?_, ?_, ?_⟩ <;> (rw [cell_of_row _ _ _ _ _ _ h]; rfl)
theorem writeHead_spec (c : Rc) (b o r i : Nat) (h : Rok c b o r) (hi : i < 2 ^ o) (pa : OA) (pc : Nat) (ea : OA) (ec : Nat) (p : Nat) (ao : OA) (B : List Nat) (h01 : Bits01 B) (hB : B.length <= 6000000000000) (w : World) (hr : RcAt w c pa ea) (hw : WrB w p ao B) (a1 : Apart p ao pa c.P) (a2 : Apart p ao ea c.E) :
  Calls Tryz.prog 193 #[.pointer (some ⟨p, 0, none⟩), riceV c pa pc ea ec, .int .i64 (i : Int)] w fun en w' => en = .returned (.tuple #[]) /\ ∃ ao', WrB w' p ao' (B ++ headB c.m (c.P.getD i 0) (c.E.getD i 0)) /\ Stays (foot p ao) w w' /\ Moved w.heap.size ao ao' := by
 have hjP : i < c.P.length := by rw [h.lP]; exact hi
 have hjE : i < c.E.length := by rw [h.lE]; exact hi
 obtain ⟨b1, o1, rfl⟩ := hr.P.addr (by omega)
 obtain ⟨b2, o2, rfl⟩ := hr.E.addr (by omega)
 have hrow := h.row i hi
 have hm0 := h.m0
 have hm1 := h.m1
 have hi2 : i < 32768 := by have := (pow15 o h.cut.o15).2; omega
 have KW : Hid (∀ wx, G0 213 #[.int .i64 c.m] wx (.int .i64 (4 + c.m))) := fun wx => pw_spec c.m hm0 hm1 wx
 have KM : Hid (∀ wx, G0 214 #[.int .i64 c.m] wx (.int .i64 (15 + 16 * c.m))) := fun wx => mark_spec c.m hm0 hm1 wx
 have HA : Hid (WB w p ao ao B (w.heap.size + 1) (w.alloc (.cells (riceC c (some ⟨b1, o1, none⟩) pc (some ⟨b2, o2, none⟩) ec) 65))) := WB.start hw aQ _ (by simp)
 have HBX : Hid ((w.alloc (.cells (riceC c (some ⟨b1, o1, none⟩) pc (some ⟨b2, o2, none⟩) ec) 65)).heap[w.heap.size]? = some (.cells (riceC c (some ⟨b1, o1, none⟩) pc (some ⟨b2, o2, none⟩) ec) 65 (0, 0))) := heap_alloc_new _ _
 have HPE : Hid (∀ ao' B' K wx, WB w p ao ao' B' K wx -> wx.cell? ⟨b1, o1 + i, none⟩ = some (.int .i64 (c.P.getD i 0)) /\ wx.cell? ⟨b2, o2 + i, none⟩ = some (.int .i64 (c.E.getD i 0))) := fun ao' B' K wx hh => ⟨(hh.ints hr.P a1).get i hjP, (hh.ints hr.E a2).get i hjE⟩
 clear h hr hw a1 a2
 generalize c.P.getD i 0 = kk at *
 generalize c.E.getD i 0 = ee at *
 rcases hrow with ⟨rfl, k0, k1⟩ | ⟨e0, e1, rfl⟩
 focus
  obtain ⟨kn, rfl⟩ : ∃ n : Nat, kk = n := ⟨kk.toNat, by omega⟩
  have HHB : Hid (headB c.m (kn : Int) (-1) = putB (kn : Int) (4 + c.m)) := by show _ = _; unfold headB; rw [if_pos rfl]
 rotate_left
 focus
  obtain ⟨en, rfl⟩ : ∃ n : Nat, ee = n := ⟨ee.toNat, by omega⟩
  have hbe : ((en : Int) == -1) = false := eQf (by omega)
  have HHB : Hid (headB c.m 0 (en : Int) = putB (15 + 16 * c.m) (4 + c.m) ++ putB (en : Int) 5) := by show _ = _; unfold headB; rw [if_neg (by omega)]
 rotate_left
 all_goals
  go_enter Tryz.func193, Tryz.ntmps193
  go_wp2_with fail
  generalize w.alloc _ = wa at *;refine (KW.out wa).mono ?_;rintro e w2 ⟨rfl, rfl⟩;obtain ⟨r1, r2⟩ := HPE.out _ _ _ _ HA.out;obtain ⟨x0, x1, x2, x3⟩ := RB.of_box HBX.out
 ·have kp := wput_all w2 ao B p (kn : Int) (4 + c.m) (by omega) (by omega) h01 (by omega) HA.out.wr
  go_wp2_with fail
  refine kp.mono ?_;rintro e w3 ⟨rfl, ao3, hw3, hs3, hv3⟩;have HE := HA.out.put hw3 hs3 hv3;have HE' : Hid (WB w p ao ao3 (B ++ putB (kn : Int) (4 + c.m)) (w.heap.size + 1) w3) := HE;clear HE hw3 hs3 hv3
  go_wp2_with fail
  refine bodyPost_ret (v := .tuple #[]) (results_none rfl _ _ _) rfl ?_;exact ⟨rfl, ao3, by rw [HHB.out]; exact HE'.out.wr, HE'.out.st, HE'.out.mv⟩
 ·have kp := wput_all w2 ao B p (15 + 16 * c.m) (4 + c.m) (by omega) (by omega) h01 (by omega) HA.out.wr
  go_wp2_with fail
  refine (KM.out w2).mono ?_;rintro e w2 ⟨rfl, rfl⟩
  go_wp2_with fail
  refine kp.mono ?_;rintro e w3 ⟨rfl, ao3, hw3, hs3, hv3⟩;have HE := kQ (HA.out.put hw3 hs3 hv3);have HB3 : Hid (w3.heap[w.heap.size]? = some (.cells (riceC c (some ⟨b1, o1, none⟩) pc (some ⟨b2, o2, none⟩) ec) 65 (0, 0))) := by show _ = _; rw [HA.out.box hs3 _ (Nat.le_refl _) (by omega)]; exact HBX.out
  clear hw3 hs3 hv3 kp x0 x1 x2 x3 r1 r2;obtain ⟨r1, r2⟩ := HPE.out _ _ _ _ HE.out;obtain ⟨x0, x1, x2, x3⟩ := RB.of_box HB3.out;have kp := wput_all w3 ao3 (B ++ putB (15 + 16 * c.m) (4 + c.m)) p (en : Int) 5 (by omega) (by omega) (h01.append (putB_01 _ _)) (by rw [List.length_append]; have := putB_short (15 + 16 * c.m) (4 + c.m) (by omega); omega) HE.out.wr
  go_wp2_with fail
  refine kp.mono ?_;rintro e w4 ⟨rfl, ao4, hw4, hs4, hv4⟩;have HE4 := kQ (HE.out.put hw4 hs4 hv4);clear hw4 hs4 hv4 kp
  go_wp2_with fail
  go_end0
  exact ⟨rfl, ao4, by rw [HHB.out, <- List.append_assoc]; exact HE4.out.wr, HE4.out.st, HE4.out.mv⟩
theorem writePart_spec (c : Rc) (b o r i : Nat) (h : Rok c b o r) (hi : i < 2 ^ o) (X : List Int) (hX : ∀ x ∈ X, fitE (c.P.getD i 0) (c.E.getD i 0) x) (pa : OA) (pc : Nat) (ea : OA) (ec : Nat) (xo : OA) (cap : Nat) (p : Nat) (ao : OA) (B : List Nat) (h01 : Bits01 B) (hB : B.length + 17000000 * X.length <= 6000000000000) (w : World) (hr : RcAt w c pa ea) (hx : IntsAt w xo X) (hw : WrB w p ao B) (a1 : Apart p ao pa c.P) (a2 : Apart p ao ea c.E) (a3 : Apart p ao xo X) :
  Calls Tryz.prog 194 #[.pointer (some ⟨p, 0, none⟩), riceV c pa pc ea ec, .int .i64 (i : Int), .slice xo X.length cap] w fun en w' => en = .returned (.tuple #[]) /\ ∃ ao', WrB w' p ao' (B ++ numsB (c.P.getD i 0) (c.E.getD i 0) X) /\ Stays (foot p ao) w w' /\ Moved w.heap.size ao ao' := by
 have hjP : i < c.P.length := by rw [h.lP]; exact hi
 have hjE : i < c.E.length := by rw [h.lE]; exact hi
 obtain ⟨b1, o1, rfl⟩ := hr.P.addr (by omega)
 obtain ⟨b2, o2, rfl⟩ := hr.E.addr (by omega)
 have hrow := h.row i hi
 have hi2 : i < 32768 := by have := (pow15 o h.cut.o15).2; omega
 have hlX := hx.len
 have HA : Hid (WB w p ao ao B (w.heap.size + 1) (w.alloc (.cells (riceC c (some ⟨b1, o1, none⟩) pc (some ⟨b2, o2, none⟩) ec) 65))) := WB.start hw aQ _ (by simp)
 have HBX : Hid ((w.alloc (.cells (riceC c (some ⟨b1, o1, none⟩) pc (some ⟨b2, o2, none⟩) ec) 65)).heap[w.heap.size]? = some (.cells (riceC c (some ⟨b1, o1, none⟩) pc (some ⟨b2, o2, none⟩) ec) 65 (0, 0))) := heap_alloc_new _ _
 have HPE : Hid (∀ ao' B' K wx, WB w p ao ao' B' K wx -> wx.cell? ⟨b1, o1 + i, none⟩ = some (.int .i64 (c.P.getD i 0)) /\ wx.cell? ⟨b2, o2 + i, none⟩ = some (.int .i64 (c.E.getD i 0)) /\ IntsAt wx xo X) := fun ao' B' K wx hh => ⟨(hh.ints hr.P a1).get i hjP, (hh.ints hr.E a2).get i hjE, hh.ints hx a3⟩
 have HN := kQ hx.num
 have HXA : Hid (∀ j, j < X.length -> ∃ b off, xo = some ⟨b, off, none⟩) := fun j hj => hx.addr (by omega)
 clear h hr hw a1 a2 hx
 generalize c.P.getD i 0 = kk at *
 generalize c.E.getD i 0 = ee at *
 have HFT := kQ hX
 clear hX
 go_enter Tryz.func194, Tryz.ntmps194
 go_wp2_with fail
 generalize w.alloc _ = wa at *
 go_loopw [9, 10, 13, 27, 37] (fun s9 s10 s13 s27 s37 wr => ∃ (j : Nat) (aj : OA), j <= X.length /\ s13 = .int .i64 (j : Int) /\ WB w p ao aj (B ++ numsB kk ee (X.take j)) (w.heap.size + 1) wr /\ wr.heap[w.heap.size]? = some (.cells (riceC c (some ⟨b1, o1, none⟩) pc (some ⟨b2, o2, none⟩) ec) 65 (0, 0))) (fun _ _ s13 _ _ _ => X.length - (intOf s13).toNat)
 case atStart => exact ⟨0, ao, Nat.zero_le _, rfl, by rw [List.take_zero, numsB_nil, List.append_nil]; exact HA.out, HBX.out⟩
 case round =>
  clear HA HBX;obtain ⟨j, aj, hj, rfl, hwb, hbx⟩ := hrel;have HA := kQ hwb;have HBX := kQ hbx;clear hwb hbx;by_cases hlt : j < X.length
  focus
   obtain ⟨bx, ox, rfl⟩ := HXA.out j hlt;obtain ⟨r1, r2, hxx⟩ := HPE.out _ _ _ _ HA.out;have r3 := hxx.get j hlt;obtain ⟨x0, x1, x2, x3⟩ := RB.of_box HBX.out;have hft := HFT.out _ (getD_mem X j hlt);have hnn := HN.out _ (getD_mem X j hlt);have HT : Hid (numsB kk ee (X.take (j + 1)) = numsB kk ee (X.take j) ++ oneB kk ee (X.getD j 0)) := by show _ = _; rw [take_snoc X j hlt, numsB_snoc]
   have hlen : (B ++ numsB kk ee (X.take j)).length <= 6000000000000 := by
    rw [List.length_append];have := numsB_len kk ee (X.take j);rw [List.length_take] at this;have : 17000000 * min j X.length <= 17000000 * X.length := Nat.mul_le_mul_left _ (Nat.min_le_right _ _);omega
   have h01' : Bits01 (B ++ numsB kk ee (X.take j)) := h01.append (numsB_01 _ _ _);clear hxx;generalize X.getD j 0 = x at *;generalize hBJ : B ++ numsB kk ee (X.take j) = BJ at *;have HGO : Hid (B ++ numsB kk ee (X.take (j + 1)) = BJ ++ oneB kk ee x) := by show _ = _; rw [HT.out, <- List.append_assoc, hBJ]
   clear hBJ HT
   rcases hrow with ⟨rfl, k0, k1⟩ | ⟨e0, e1, rfl⟩
   focus
    have HOB : Hid (oneB kk (-1) x = rcwB x kk) := by show _ = _; unfold oneB; rw [if_pos rfl]
    have kp := wric_all wr aj BJ p x kk hnn.1 hnn.2 h01' (by omega) HA.out.wr
   rotate_left
   focus
    obtain ⟨en, rfl⟩ : ∃ n : Nat, ee = n := ⟨ee.toNat, by omega⟩
    have hbe : ((en : Int) == -1) = false := eQf (by omega)
    by_cases hz : en = 0
    ·subst hz
     have HOB : Hid (oneB 0 ((0 : Nat) : Int) x = []) := by show _ = _; unfold oneB; rw [if_neg (by decide), if_pos (show ((0 : Nat) : Int) = 0 from rfl)]
     clear hft
     go_wp2_with fail
     go_roundw
     case rel => exact ⟨j + 1, aj, by omega, by go_num, by rw [HGO.out, HOB.out, List.append_nil]; exact HA.out, HBX.out⟩
     case measure => simp [intOf]; omega
    focus
     have hbz : ((en : Int) == 0) = false := eQf (by omega)
     have HOB : Hid (oneB 0 (en : Int) x = sigB x (en : Int)) := by show _ = _; unfold oneB; rw [if_neg (by omega), if_neg (by omega)]
     have kp := wsig_all wr aj BJ p x (en : Int) h01' (by omega) HA.out.wr
    rotate_left
   rotate_left
  rotate_left 2
  ·have HE : Hid (X.take j = X) := List.take_of_length_le (by omega)
   go_wp2_with fail
   go_end0
   exact ⟨rfl, aj, by have := HA.out.wr; rw [HE.out] at this; exact this, HA.out.st, HA.out.mv⟩
  all_goals
   clear hft
   go_wp2_with fail
   refine kp.mono ?_;rintro e w3 ⟨rfl, ao3, hw3, hs3, hv3⟩;have HE := kQ (HA.out.put hw3 hs3 hv3);have HB3 : Hid (w3.heap[w.heap.size]? = some (.cells (riceC c (some ⟨b1, o1, none⟩) pc (some ⟨b2, o2, none⟩) ec) 65 (0, 0))) := by show _ = _; rw [HA.out.box hs3 _ (Nat.le_refl _) (by omega)]; exact HBX.out
   clear hw3 hs3 hv3 kp x0 x1 x2 x3 r1 r2 r3
   go_wp2_with fail
   go_roundw
   case rel => exact ⟨j + 1, ao3, by omega, by go_num, by rw [HGO.out, HOB.out]; exact HE.out, HB3.out⟩
   case measure => simp [intOf]; omega
structure ES (w : World) (c : Rc) (pa : OA) (pc : Nat) (ea : OA) (ec : Nat) (q : Nat) (N d r : Int) (p : Nat) (ao aj : OA) (B : List Nat) (wx : World) : Prop where
 wb : WB w p ao aj B (q + 1) wx
 bx : wx.heap[w.heap.size]? = some (.cells (riceC c pa pc ea ec) 65 (0, 0))
 bq : wx.heap[q]? = some (.cells #[.int .i64 N, .int .i64 d, .int .i64 r] 219 (0, 0))
 lt : w.heap.size < q
section
variable {w wx w' : World} {c : Rc} {pa : OA} {pc : Nat} {ea : OA} {ec : Nat} {q : Nat} {N d r : Int} {p : Nat} {ao aj aj' : OA} {B B' : List Nat}
theorem ES.start (h : CB w c pa pc ea ec q N d r wx) (hw : WrB w p ao B) : ES w c pa pc ea ec q N d r p ao ao B wx :=
 ⟨WB.start hw h.rb.below _ (lt_of_block h.box), h.rb.box, h.box, h.lt⟩
theorem ES.low (h : ES w c pa pc ea ec q N d r p ao aj B wx) (hb : Lo wx w') : ES w c pa pc ea ec q N d r p ao aj B w' :=
 ⟨h.wb.low hb, by rw [hb.block _ (lt_of_block h.bx)]; exact h.bx, by rw [hb.block _ (lt_of_block h.bq)]; exact h.bq, h.lt⟩
theorem ES.put (h : ES w c pa pc ea ec q N d r p ao aj B wx) (hw : WrB w' p aj' B') (hS : Stays (foot p aj) wx w') (hM : Moved wx.heap.size aj aj') : ES w c pa pc ea ec q N d r p ao aj' B' w' :=
 ⟨h.wb.put hw hS hM, by rw [h.wb.box hS _ (Nat.le_refl _) (by have := h.lt; omega)]; exact h.bx, by rw [h.wb.box hS _ (Nat.le_of_lt h.lt) (by omega)]; exact h.bq, h.lt⟩
theorem ES.cells (h : ES w c pa pc ea ec q N d r p ao aj B wx) : wx.cell? ⟨w.heap.size, 0, none⟩ = some (.int .i64 c.m) /\ wx.cell? ⟨w.heap.size, 1, none⟩ = some (.int .i64 c.o) /\ wx.cell? ⟨w.heap.size, 2, none⟩ = some (.slice pa c.P.length pc) /\ wx.cell? ⟨w.heap.size, 3, none⟩ = some (.slice ea c.E.length ec) /\ wx.cell? ⟨q, 0, none⟩ = some (.int .i64 N) /\ wx.cell? ⟨q, 1, none⟩ = some (.int .i64 d) /\ wx.cell? ⟨q, 2, none⟩ = some (.int .i64 r) := by
 obtain ⟨x0, x1, x2, x3⟩ := RB.of_box h.bx
 refine ⟨x0, x1, x2, x3, ?_, ?_, ?_⟩ <;> (rw [cell_of_row _ _ _ _ _ _ h.bq]; rfl)
end
theorem encode_chk (c : Rc) (l : List Int) (hs : ShX l) (pa : OA) (pc : Nat) (ea : OA) (ec : Nat) (lo : OA) (cap : Nat) (hc : l.length <= cap) (h0 : lo = none -> cap = 0) (p : Nat) (ao : OA) (B : List Nat) (h01 : Bits01 B) (hB : B.length <= 1300000000000) (w : World) (hr : RcAt w c pa ea) (hl : IntsAt w lo l) (hw : WrB w p ao B) (b r : Int) (hno : ¬ chkOk c b r) :
  Calls Tryz.prog 160 #[.pointer (some ⟨p, 0, none⟩), riceV c pa pc ea ec, .int .i64 b, .int .i64 r, .slice lo l.length cap] w fun en w' => en = .returned (.int .i64 60) /\ Lo w w' := by
 have HB0 : Hid (RB w c pa pc ea ec (w.alloc (.cells (riceC c pa pc ea ec) 65))) := RB.new w c pa pc ea ec
 have KC : Hid (∀ wx, Lo w wx -> G1 190 #[riceV c pa pc ea ec, .int .i64 b, .int .i64 r] wx (.int .i64 60)) := fun wx hb => (check_spec c b r pa pc ea ec wx (hr.below hb)).mono fun e w' hh => ⟨by rw [hh.1, chk_no hno], hh.2⟩
 clear hno hr hl hw hs
 go_enter Tryz.func160, Tryz.ntmps160
 go_wp2_with fail
 generalize w.alloc _ = wa at *
 refine (KC.out wa HB0.out.below).mono ?_
 rintro e w2 ⟨rfl, hb2⟩
 have HR2 := kQ ((HB0.out.next hb2).below)
 clear hb2
 go_wp2_with fail
 go_ret
 exact ⟨rfl, HR2.out⟩
theorem encode_fit (c : Rc) (l : List Int) (hs : ShX l) (pa : OA) (pc : Nat) (ea : OA) (ec : Nat) (lo : OA) (cap : Nat) (hc : l.length <= cap) (h0 : lo = none -> cap = 0) (p : Nat) (ao : OA) (B : List Nat) (h01 : Bits01 B) (hB : B.length <= 1300000000000) (w : World) (hr : RcAt w c pa ea) (hl : IntsAt w lo l) (hw : WrB w p ao B) (b o r : Nat) (h : Rok c b o r) (hf : fitB c b o r l = false) :
  Calls Tryz.prog 160 #[.pointer (some ⟨p, 0, none⟩), riceV c pa pc ea ec, .int .i64 (b : Int), .int .i64 (r : Int), .slice lo l.length cap] w fun en w' => en = .returned (.int .i64 60) /\ Lo w w' := by
 have HB0 : Hid (RB w c pa pc ea ec (w.alloc (.cells (riceC c pa pc ea ec) 65))) := RB.new w c pa pc ea ec
 have KC : Hid (∀ wx, Lo w wx -> G1 190 #[riceV c pa pc ea ec, .int .i64 (b : Int), .int .i64 (r : Int)] wx (.int .i64 0)) := fun wx hb => (check_spec c b r pa pc ea ec wx (hr.below hb)).mono fun e w' hh => ⟨by rw [hh.1, chk_yes h.chk], hh.2⟩
 have KU : Hid (∀ wx, G1 191 #[.int .i64 (b : Int), .int .i64 (r : Int), .int .i64 c.o] wx (.tuple #[cutV ((2 ^ o : Nat) : Int) ((b / 2 ^ o : Nat) : Int) (r : Int), .bool true])) := fun wx => by rw [h.ho]; exact cutOf_yes b o r h.cut wx
 have KF : Hid (∀ wx, Lo w wx -> G1 192 #[riceV c pa pc ea ec, cutV ((2 ^ o : Nat) : Int) ((b / 2 ^ o : Nat) : Int) (r : Int), .slice lo l.length cap] wx (.bool (fitB c b o r l))) := fun wx hb => fit_spec c b o r l h hs pa pc ea ec lo cap hc h0 wx (hr.below hb) (hl.below hb)
 rw [hf] at KF
 clear hr hl hw hs h hf
 generalize hpn : 2 ^ o = N at *
 generalize b / N = d at *
 clear hpn
 go_enter Tryz.func160, Tryz.ntmps160
 go_wp2_with fail
 generalize w.alloc _ = wa at *
 refine (KC.out wa HB0.out.below).mono ?_
 rintro e w2 ⟨rfl, hb2⟩
 have HR2 := kQ (HB0.out.next hb2)
 clear hb2
 have x1 := HR2.out.c1
 go_wp2_with fail
 refine (KU.out w2).mono ?_
 rintro e w3 ⟨rfl, hb3⟩
 have HC4 : Hid (CB w c pa pc ea ec w3.heap.size (N : Int) (d : Int) (r : Int) (w3.alloc (.cells #[.int .i64 (N : Int), .int .i64 (d : Int), .int .i64 (r : Int)] 219))) := CB.new (HR2.out.next hb3) _ _ _
 clear hb3 x1 HR2
 have x0 := HC4.out.rb.c0
 have x1 := HC4.out.rb.c1
 have x2 := HC4.out.rb.c2
 have x3 := HC4.out.rb.c3
 go_wp2_with fail
 generalize hwd : w3.alloc _ = wd at *
 generalize w3.heap.size = q at *
 clear hwd x0 x1 x2 x3
 refine (KF.out wd HC4.out.rb.below).mono ?_
 rintro e w5 ⟨rfl, hb5⟩
 have HC5 := kQ (HC4.out.next hb5)
 clear hb5 HC4
 go_wp2_with fail
 go_ret
 exact ⟨rfl, HC5.out.rb.below⟩
theorem encode_ok (c : Rc) (l : List Int) (hs : ShX l) (pa : OA) (pc : Nat) (ea : OA) (ec : Nat) (lo : OA) (cap : Nat) (hc : l.length <= cap) (h0 : lo = none -> cap = 0) (p : Nat) (ao : OA) (B : List Nat) (h01 : Bits01 B) (hB : B.length <= 1300000000000) (w : World) (hr : RcAt w c pa ea) (hl : IntsAt w lo l) (hw : WrB w p ao B) (a1 : Apart p ao pa c.P) (a2 : Apart p ao ea c.E) (a3 : Apart p ao lo l) (b o r : Nat) (h : Rok c b o r) (hf : fitB c b o r l = true) :
  Calls Tryz.prog 160 #[.pointer (some ⟨p, 0, none⟩), riceV c pa pc ea ec, .int .i64 (b : Int), .int .i64 (r : Int), .slice lo l.length cap] w fun en w' => en = .returned (.int .i64 0) /\ ∃ ao', WrB w' p ao' (B ++ encB c b r l) /\ Stays (foot p ao) w w' /\ Moved w.heap.size ao ao' := by
 have HB0 : Hid (RB w c pa pc ea ec (w.alloc (.cells (riceC c pa pc ea ec) 65))) := RB.new w c pa pc ea ec
 have KC : Hid (∀ wx, Lo w wx -> G1 190 #[riceV c pa pc ea ec, .int .i64 (b : Int), .int .i64 (r : Int)] wx (.int .i64 0)) := fun wx hb => (check_spec c b r pa pc ea ec wx (hr.below hb)).mono fun e w' hh => ⟨by rw [hh.1, chk_yes h.chk], hh.2⟩
 have KU : Hid (∀ wx, G1 191 #[.int .i64 (b : Int), .int .i64 (r : Int), .int .i64 c.o] wx (.tuple #[cutV ((2 ^ o : Nat) : Int) ((b / 2 ^ o : Nat) : Int) (r : Int), .bool true])) := fun wx => by rw [h.ho]; exact cutOf_yes b o r h.cut wx
 have KF : Hid (∀ wx, Lo w wx -> G1 192 #[riceV c pa pc ea ec, cutV ((2 ^ o : Nat) : Int) ((b / 2 ^ o : Nat) : Int) (r : Int), .slice lo l.length cap] wx (.bool (fitB c b o r l))) := fun wx hb => fit_spec c b o r l h hs pa pc ea ec lo cap hc h0 wx (hr.below hb) (hl.below hb)
 rw [hf] at KF
 obtain ⟨hlen, hfit⟩ := (fitB_iff c b o r l).1 hf
 have hot : c.o.toNat = o := by have := h.ho; omega
 have HEB : Hid (encB c b r l = putB c.m 2 ++ putB c.o 4 ++ partsB c b o r l (2 ^ o)) := by show _ = _; unfold encB; rw [hot]
 have hm0 := h.m0
 have hm1 := h.m1
 have ho15 := h.cut.o15
 have hco := h.ho
 have HW := kQ hw
 have hl5 := hs.2
 have hp15 := pow15 o ho15
 have HLB : Hid (∀ n, n <= 2 ^ o -> (B ++ putB c.m 2 ++ putB c.o 4 ++ partsB c b o r l n).length <= 2700000000000) := fun n hn => by
  have h1 := parts_room c hm1 h.cut l hlen n hn hl5;have h2 := putB_short c.m 2 (by omega)
  have h3 := putB_short c.o 4 (by omega)
  simp only [List.length_append];omega
 have H01 : Hid (∀ n, Bits01 (B ++ putB c.m 2 ++ putB c.o 4 ++ partsB c b o r l n)) := fun n => (((h01.append (putB_01 _ _)).append (putB_01 _ _)).append (partsB_01 _ _ _ _ _ _))
 have HPS : Hid (∀ n, partsB c b o r l (n + 1) = partsB c b o r l n ++ (headB c.m (c.P.getD n 0) (c.E.getD n 0) ++ numsB (c.P.getD n 0) (c.E.getD n 0) (partN l b o r n))) := fun n => partsB_succ c b o r l n
 have HKH : Hid (∀ (j : Nat) aj BJ wx q' N' d' r', j < 2 ^ o -> Bits01 BJ -> BJ.length <= 3000000000000 -> Hid (ES w c pa pc ea ec q' N' d' r' p ao aj BJ wx) -> Calls Tryz.prog 193 #[.pointer (some ⟨p, 0, none⟩), riceV c pa pc ea ec, .int .i64 (j : Int)] wx fun en w' => en = .returned (.tuple #[]) /\ ∃ ao', Hid (ES w c pa pc ea ec q' N' d' r' p ao ao' (BJ ++ headB c.m (c.P.getD j 0) (c.E.getD j 0)) w')) := fun j aj BJ wx q' N' d' r' hj hb hl hE =>
  (writeHead_spec c b o r j h hj pa pc ea ec p aj BJ hb (by omega) wx ⟨hE.out.wb.ints hr.P a1, hE.out.wb.ints hr.E a2, hr.m1, hr.m2, hr.o1, hr.o2⟩ hE.out.wb.wr (a1.moved hr.P hE.out.wb.mv) (a2.moved hr.E hE.out.wb.mv)).mono fun e w' hh => by
   obtain ⟨h1, ao', h2, h3, h4⟩ := hh;exact ⟨h1, ao', hE.out.put h2 h3 h4⟩
 have HKQ : Hid (∀ (j : Nat) aj BJ wx q' N' r', j < 2 ^ o -> Hid (ES w c pa pc ea ec q' N' ((b / 2 ^ o : Nat) : Int) r' p ao aj BJ wx) -> Calls Tryz.prog 195 #[cutV N' ((b / 2 ^ o : Nat) : Int) (r : Int), .slice lo l.length cap, .int .i64 (j : Int)] wx fun en w' => ∃ xo, en = .returned (.slice xo (partN l b o r j).length (partN l b o r j).length) /\ Hid (ES w c pa pc ea ec q' N' ((b / 2 ^ o : Nat) : Int) r' p ao aj BJ w') /\ Hid (IntsAt w' xo (partN l b o r j) /\ Apart p aj xo (partN l b o r j))) := fun j aj BJ wx q' N' r' hj hE =>
  (partL_spec l b o r j h.cut hj lo cap hlen hc h0 N' wx (hE.out.wb.ints hl a3)).mono fun e w' hh => by
   obtain ⟨xo, h1, h2, h3, h4, _⟩ := hh
   exact ⟨xo, h1, hE.out.low h2, h3, (a3.moved hl hE.out.wb.mv).part h4 (fun hp => by
    have : (partN l b o r j).length <= l.length := by unfold partN; rw [List.length_take, List.length_drop]; omega
    omega)⟩
 have HKW : Hid (∀ (j : Nat) aj BJ wx q' N' d' r' xo, j < 2 ^ o -> Bits01 BJ -> BJ.length <= 3000000000000 -> Hid (ES w c pa pc ea ec q' N' d' r' p ao aj BJ wx) -> Hid (IntsAt wx xo (partN l b o r j) /\ Apart p aj xo (partN l b o r j)) -> Calls Tryz.prog 194 #[.pointer (some ⟨p, 0, none⟩), riceV c pa pc ea ec, .int .i64 (j : Int), .slice xo (partN l b o r j).length (partN l b o r j).length] wx fun en w' => en = .returned (.tuple #[]) /\ ∃ ao', Hid (ES w c pa pc ea ec q' N' d' r' p ao ao' (BJ ++ numsB (c.P.getD j 0) (c.E.getD j 0) (partN l b o r j)) w')) := fun j aj BJ wx q' N' d' r' xo hj hb hl2 hE hX =>
  (writePart_spec c b o r j h hj (partN l b o r j) (hfit j hj) pa pc ea ec xo _ p aj BJ hb (by
    have : (partN l b o r j).length <= l.length := by unfold partN; rw [List.length_take, List.length_drop]; omega
    omega) wx ⟨hE.out.wb.ints hr.P a1, hE.out.wb.ints hr.E a2, hr.m1, hr.m2, hr.o1, hr.o2⟩ hX.out.1 hE.out.wb.wr (a1.moved hr.P hE.out.wb.mv) (a2.moved hr.E hE.out.wb.mv) hX.out.2).mono fun e w' hh => by
   obtain ⟨h1, ao', h2, h3, h4⟩ := hh;exact ⟨h1, ao', hE.out.put h2 h3 h4⟩
 have HCO := kQ hco
 have hc0 : 0 <= c.o := by omega
 have hc1 : c.o <= 15 := by omega
 clear hr hl hw hs h hf hfit hot a1 a2 a3 hco hlen
 generalize hpn : 2 ^ o = N at *
 generalize b / N = d at *
 clear hpn
 go_enter Tryz.func160, Tryz.ntmps160
 go_wp2_with fail
 generalize w.alloc _ = wa at *
 refine (KC.out wa HB0.out.below).mono ?_
 rintro e w2 ⟨rfl, hb2⟩
 have HR2 := kQ (HB0.out.next hb2)
 clear hb2
 have x1 := HR2.out.c1
 go_wp2_with fail
 refine (KU.out w2).mono ?_
 rintro e w3 ⟨rfl, hb3⟩
 have HC4 : Hid (CB w c pa pc ea ec w3.heap.size (N : Int) (d : Int) (r : Int) (w3.alloc (.cells #[.int .i64 (N : Int), .int .i64 (d : Int), .int .i64 (r : Int)] 219))) := CB.new (HR2.out.next hb3) _ _ _
 clear hb3 x1 HR2
 have x0 := HC4.out.rb.c0
 have x1 := HC4.out.rb.c1
 have x2 := HC4.out.rb.c2
 have x3 := HC4.out.rb.c3
 go_wp2_with fail
 generalize hwd : w3.alloc _ = wd at *
 generalize w3.heap.size = q at *
 clear hwd x0 x1 x2 x3
 refine (KF.out wd HC4.out.rb.below).mono ?_
 rintro e w5 ⟨rfl, hb5⟩
 have HC5 := kQ (HC4.out.next hb5)
 clear hb5 HC4
 have HE5 : Hid (ES w c pa pc ea ec q (N : Int) (d : Int) (r : Int) p ao ao B w5) := ES.start HC5.out HW.out
 clear HC5 KC KU KF
 obtain ⟨x0, x1, x2, x3, y0, y1, y2⟩ := HE5.out.cells
 have kp := wput_all w5 ao B p c.m 2 (by omega) (by omega) h01 (by omega) HE5.out.wb.wr
 go_wp2_with fail
 refine kp.mono ?_
 rintro e w6 ⟨rfl, ao6, hw6, hs6, hv6⟩
 have HE6 := kQ (HE5.out.put hw6 hs6 hv6)
 clear hw6 hs6 hv6 kp x0 x1 x2 x3 y0 y1 y2 HE5
 obtain ⟨x0, x1, x2, x3, y0, y1, y2⟩ := HE6.out.cells
 have kp := wput_all w6 ao6 (B ++ putB c.m 2) p c.o 4 (by omega) (by omega) (h01.append (putB_01 _ _)) (by rw [List.length_append]; have := putB_short c.m 2 (by omega); omega) HE6.out.wb.wr
 have hcw : IntKind.u64.wrap c.o = c.o := by rw [IntKind.wrap_u64]; omega
 go_wp2_with fail
 refine kp.mono ?_
 rintro e w7 ⟨rfl, ao7, hw7, hs7, hv7⟩
 have HE7 := kQ (HE6.out.put hw7 hs7 hv7)
 clear hw7 hs7 hv7 kp x0 x1 x2 x3 y0 y1 y2 HE6 hcw hc0 hc1
 obtain ⟨x0, x1, x2, x3, y0, y1, y2⟩ := HE7.out.cells
 have hn32 := hp15.2
 go_wp2_with fail
 clear x0 x1 x2 x3 y0 y1 y2
 go_loopw [14, 49] (fun s14 s49 wr => ∃ (j : Nat) (aj : OA), j <= N /\ s49 = .int .i64 (j : Int) /\ ES w c pa pc ea ec q (N : Int) (d : Int) (r : Int) p ao aj (B ++ putB c.m 2 ++ putB c.o 4 ++ partsB c b o r l j) wr) (fun _ s49 _ => N - (intOf s49).toNat)
 case atStart => exact ⟨0, ao7, Nat.zero_le _, rfl, by rw [partsB_zero, List.append_nil]; exact HE7.out⟩
 case round =>
  clear HE7;obtain ⟨j, aj, hj, rfl, hes⟩ := hrel;have HE := kQ hes;clear hes;by_cases hlt : j < N
  ·have HS1 : Hid (B ++ putB c.m 2 ++ putB c.o 4 ++ partsB c b o r l (j + 1) = B ++ putB c.m 2 ++ putB c.o 4 ++ partsB c b o r l j ++ headB c.m (c.P.getD j 0) (c.E.getD j 0) ++ numsB (c.P.getD j 0) (c.E.getD j 0) (partN l b o r j)) := by
    show _ = _;rw [HPS.out j];simp only [List.append_assoc]
   have hlb := HLB.out j (by omega)
   have h01j := H01.out j;have hhl := headB_len c.m (c.P.getD j 0) (c.E.getD j 0) hm1;have h01h := headB_01 c.m (c.P.getD j 0) (c.E.getD j 0);generalize B ++ putB c.m 2 ++ putB c.o 4 ++ partsB c b o r l j = BJ at *;have kh := HKH.out j aj BJ wr q (N : Int) (d : Int) (r : Int) hlt h01j (by omega) HE
   have KQ : Hid (∀ wx aj BJ, Hid (ES w c pa pc ea ec q (N : Int) (d : Int) (r : Int) p ao aj BJ wx) -> Calls Tryz.prog 195 #[cutV (N : Int) (d : Int) (r : Int), .slice lo l.length cap, .int .i64 (j : Int)] wx fun en w' => ∃ xo, en = .returned (.slice xo (partN l b o r j).length (partN l b o r j).length) /\ Hid (ES w c pa pc ea ec q (N : Int) (d : Int) (r : Int) p ao aj BJ w') /\ Hid (IntsAt w' xo (partN l b o r j) /\ Apart p aj xo (partN l b o r j))) := fun wx aj BJ hE => HKQ.out j aj BJ wx q (N : Int) (r : Int) hlt hE;have KW : Hid (∀ wx aj xo, Hid (ES w c pa pc ea ec q (N : Int) (d : Int) (r : Int) p ao aj (BJ ++ headB c.m (c.P.getD j 0) (c.E.getD j 0)) wx) -> Hid (IntsAt wx xo (partN l b o r j) /\ Apart p aj xo (partN l b o r j)) -> Calls Tryz.prog 194 #[.pointer (some ⟨p, 0, none⟩), riceV c pa pc ea ec, .int .i64 (j : Int), .slice xo (partN l b o r j).length (partN l b o r j).length] wx fun en w' => en = .returned (.tuple #[]) /\ ∃ ao', Hid (ES w c pa pc ea ec q (N : Int) (d : Int) (r : Int) p ao ao' (BJ ++ headB c.m (c.P.getD j 0) (c.E.getD j 0) ++ numsB (c.P.getD j 0) (c.E.getD j 0) (partN l b o r j)) w')) := fun wx aj xo hE hX => HKW.out j aj _ wx q (N : Int) (d : Int) (r : Int) xo hlt (h01j.append h01h) (by rw [List.length_append]; omega) hE hX
   have HSC : Hid (∀ wx aj BJ, Hid (ES w c pa pc ea ec q (N : Int) (d : Int) (r : Int) p ao aj BJ wx) -> wx.cell? ⟨w.heap.size, 0, none⟩ = some (.int .i64 c.m) /\ wx.cell? ⟨w.heap.size, 1, none⟩ = some (.int .i64 c.o) /\ wx.cell? ⟨w.heap.size, 2, none⟩ = some (.slice pa c.P.length pc) /\ wx.cell? ⟨w.heap.size, 3, none⟩ = some (.slice ea c.E.length ec) /\ wx.cell? ⟨q, 0, none⟩ = some (.int .i64 (N : Int)) /\ wx.cell? ⟨q, 1, none⟩ = some (.int .i64 (d : Int)) /\ wx.cell? ⟨q, 2, none⟩ = some (.int .i64 (r : Int))) := fun wx aj BJ h => h.out.cells;clear HKH HKQ HKW HPS HLB H01;generalize partN l b o r j = X at *;generalize headB c.m (c.P.getD j 0) (c.E.getD j 0) = HH at *;generalize numsB (c.P.getD j 0) (c.E.getD j 0) X = NN at *;obtain ⟨x0, x1, x2, x3, y0, y1, y2⟩ := HE.out.cells
   go_wp2_with fail
   refine kh.mono ?_;rintro e w3 ⟨rfl, aj3, he3⟩;clear x0 x1 x2 x3 y0 y1 y2 kh HE;have HD3 : Hid (ES w c pa pc ea ec q (N : Int) (d : Int) (r : Int) p ao aj3 (BJ ++ HH) w3.drew) := he3.out.low dQ;clear he3
   go_wp2_with fail
   go_region_held3 (fun wx => wx.cell? ⟨w.heap.size, 0, none⟩ = some (.int .i64 c.m) /\ wx.cell? ⟨w.heap.size, 1, none⟩ = some (.int .i64 c.o) /\ wx.cell? ⟨w.heap.size, 2, none⟩ = some (.slice pa c.P.length pc) /\ wx.cell? ⟨w.heap.size, 3, none⟩ = some (.slice ea c.E.length ec) /\ wx.cell? ⟨q, 0, none⟩ = some (.int .i64 (N : Int)) /\ wx.cell? ⟨q, 1, none⟩ = some (.int .i64 (d : Int)) /\ wx.cell? ⟨q, 2, none⟩ = some (.int .i64 (r : Int))) (exact HSC.out _ _ _ (by assumption))
    (first
     | (go_at_call 195; refine (KQ.out _ _ _ (by assumption)).mono ?_; rintro e w4 ⟨xo, rfl, h4, hx4⟩)
     | (go_at_call 194; refine (KW.out _ _ _ (by assumption) (by assumption)).mono ?_; rintro e w5 ⟨rfl, aj5, h5⟩))
   go_wp2_with fail
   go_roundw
   case rel => exact ⟨j + 1, aj5, by omega, by go_num, by rw [HS1.out]; exact h5.out⟩
   case measure => simp [intOf]; omega
  ·have HJN : Hid (j = N) := by show _ = _; omega
   go_wp2_with fail
   go_ret;refine ⟨rfl, aj, ?_, HE.out.wb.st, HE.out.wb.mv⟩;have hh := HE.out.wb.wr;rw [HJN.out] at hh;rw [HEB.out]
   simpa only [List.append_assoc] using hh
def rdE (s : ByteArray) (a : Nat) (k e : Int) : Int := if e = -1 then ricE s a k else if e = 0 then 0 else sgnE s a e
def rdV (s : ByteArray) (a : Nat) (k e : Int) : Int := if e = -1 then ricV s a k else if e = 0 then 0 else sgnV s a e
def rdA (s : ByteArray) (a : Nat) (k e : Int) : Nat := if e = -1 then ricA s a k else if e = 0 then a else sgnA s a e
theorem rdA_le (s : ByteArray) (a : Nat) (k e : Int) (h : a <= 8 * s.size) : rdA s a k e <= 8 * s.size := by
 unfold rdA; split
 ·exact ricA_le s a k h
 ·split
  ·exact h
  ·exact sgnA_le s a e h
def rdAll (s : ByteArray) (k e : Int) : Nat -> Nat -> Option (List Int × Nat)
 | 0, a => some ([], a)
 | n + 1, a => match rdAll s k e n a with
  | none => none
  | some (X, a1) => if rdE s a1 k e = 0 then some (X ++ [rdV s a1 k e], rdA s a1 k e) else none
theorem rdAll_none {s : ByteArray} {k e : Int} {n : Nat} {a : Nat} (m : Nat) (h : rdAll s k e n a = none) (hm : n <= m) : rdAll s k e m a = none := by
 induction m with
 | zero => rw [show n = 0 by omega] at h; exact h
 | succ m ih =>
  by_cases e1 : n = m + 1
  ·rw [<- e1]; exact h
  ·unfold rdAll; rw [ih (by omega)]
theorem rdAll_some {s : ByteArray} {k e : Int} {n : Nat} {a a1 : Nat} {X : List Int} (h : rdAll s k e n a = some (X, a1)) (h0 : rdE s a1 k e = 0) : rdAll s k e (n + 1) a = some (X ++ [rdV s a1 k e], rdA s a1 k e) := by
 unfold rdAll; rw [h]; simp only; rw [if_pos h0]
theorem rdAll_stop {s : ByteArray} {k e : Int} {n : Nat} {a a1 : Nat} {X : List Int} (h : rdAll s k e n a = some (X, a1)) (h0 : ¬ rdE s a1 k e = 0) : rdAll s k e (n + 1) a = none := by
 unfold rdAll; rw [h]; simp only; rw [if_neg h0]
theorem rdAll_len {s : ByteArray} {k e : Int} {n : Nat} {a a1 : Nat} {X : List Int} (h : rdAll s k e n a = some (X, a1)) : X.length = n := by
 induction n generalizing X a1 with
 | zero => unfold rdAll at h; cases h; rfl
 | succ n ih =>
  unfold rdAll at h
  cases hq : rdAll s k e n a with
  | none => rw [hq] at h; cases h
  | some p =>
   obtain ⟨Y, a2⟩ := p;rw [hq] at h;simp only at h
   split at h
   ·cases h; rw [List.length_append, ih hq]; rfl
   ·cases h
theorem rdAll_le {s : ByteArray} {k e : Int} {n : Nat} {a a1 : Nat} {X : List Int} (h : rdAll s k e n a = some (X, a1)) (ha : a <= 8 * s.size) : a1 <= 8 * s.size := by
 induction n generalizing X a1 with
 | zero => unfold rdAll at h; cases h; exact ha
 | succ n ih =>
  unfold rdAll at h
  cases hq : rdAll s k e n a with
  | none => rw [hq] at h; cases h
  | some p =>
   obtain ⟨Y, a2⟩ := p;rw [hq] at h;simp only at h
   split at h
   ·cases h; exact rdA_le _ _ _ _ (ih hq)
   ·cases h
def rdHead (s : ByteArray) (a : Nat) (m : Int) : Option (Int × Int × Nat) :=
 if getE s a (4 + m) = 0 then
  if getV s a (4 + m) = 15 + 16 * m then
   (if getE s (getA s a (4 + m)) 5 = 0 then some (0, getV s (getA s a (4 + m)) 5, getA s (getA s a (4 + m)) 5) else none)
  else some (getV s a (4 + m), -1, getA s a (4 + m))
 else none
theorem getV_nat (s : ByteArray) (a : Nat) (k : Int) (h : getE s a k = 0) : getV s a k = (bitsAt s a k.toNat : Int) := by unfold getV; rw [if_pos h]
theorem getV_bound (s : ByteArray) (a : Nat) (k : Int) : 0 <= getV s a k /\ getV s a k < 2 ^ k.toNat := by
 have hp : (0 : Int) < 2 ^ k.toNat := Int.pow_pos (by decide)
 unfold getV; split
 ·have h := bitsAt_lt s a k.toNat
  have e : ((2 ^ k.toNat : Nat) : Int) = 2 ^ k.toNat := by simp
  refine ⟨by omega, ?_⟩
  rw [<- e]; omega
 ·exact ⟨by omega, by omega⟩
structure Dec where
 L : List Int
 P : List Int
 E : List Int
 a : Nat
def rdParts (s : ByteArray) (m : Int) (b o r : Nat) : Nat -> Nat -> Option Dec
 | 0, a => some ⟨[], [], [], a⟩
 | i + 1, a => match rdParts s m b o r i a with
  | none => none
  | some d => match rdHead s d.a m with
   | none => none
   | some (k, e, a1) => match rdAll s k e (frN b o r (i + 1) - frN b o r i) a1 with
    | none => none
    | some (X, a2) => some ⟨d.L ++ X, d.P ++ [k], d.E ++ [e], a2⟩
def rdTop (s : ByteArray) (a : Nat) (b r : Int) : Option (Int × Int × Nat) :=
 if getE s a 2 = 0 /\ getV s a 2 <= 1 then
  (if getE s (getA s a 2) 4 = 0 /\ cutOk b r (getV s (getA s a 2) 4) then some (getV s a 2, getV s (getA s a 2) 4, getA s (getA s a 2) 4) else none)
 else none
def decP (s : ByteArray) (a : Nat) (b r : Int) : Option (Rc × List Int × Nat) :=
 match rdTop s a b r with
 | none => none
 | some (m, o, a1) => match rdParts s m b.toNat o.toNat r.toNat (2 ^ o.toNat) a1 with
  | none => none
  | some d => some (⟨m, o, d.P, d.E⟩, d.L, d.a)
def IntsBlk (w : World) (g : Nat) (L : List Int) : Prop := w.heap[g]? = some (.cells (intsC L).toArray 3 (0, 0))
theorem IntsBlk.lt {w : World} {g : Nat} {L : List Int} (h : IntsBlk w g L) : g < w.heap.size := lt_of_block h
theorem IntsBlk.stays {w w' : World} {g : Nat} {L : List Int} (h : IntsBlk w g L) {S : Nat -> Prop} (hS : Stays S w w') (hn : ¬ S g) : IntsBlk w' g L := by
 unfold IntsBlk; rw [hS.block g h.lt hn]; exact h
theorem IntsBlk.cell {w : World} {g : Nat} {L : List Int} (h : IntsBlk w g L) (j : Nat) (hj : j < L.length) : w.cell? ⟨g, j, none⟩ = some (.int .i64 (L.getD j 0)) := by
 rw [cell_of_row _ _ _ _ _ _ h]
 simp [intsC, List.getD_eq_getElem?_getD, List.getElem?_eq_getElem hj]
theorem IntsBlk.frozen {w : World} {g : Nat} {L : List Int} (h : IntsBlk w g L) (j : Nat) : w.frozen? ⟨g, j, none⟩ = false := by
 unfold IntsBlk at h
 simp [World.frozen?, h]
theorem IntsBlk.set {w : World} {g : Nat} {L : List Int} (h : IntsBlk w g L) (j : Nat) (v : Int) : IntsBlk (w.setCell ⟨g, j, none⟩ (.int .i64 v)) g (L.set j v) := by
 unfold IntsBlk
 rw [block_setCell _ _ _ _ _ _ h]
 congr 2
 simp [intsC, List.map_set]
end Go.Proofs.YtfpfabmbipmipaaGreatDoor
