/- Own text. -/
import Derived.Test.YtfpfabmbipmipaaGreatDoorB41
set_option linter.unusedSimpArgs false
set_option linter.unusedVariables false
set_option maxRecDepth 20000
set_option maxHeartbeats 12800000
namespace Go.Proofs.YtfpfabmbipmipaaGreatDoor
open Go.RowKit
structure PX (w : World) (a b c d : Int) (i : Inf) (e : Int) (sc : ByteArray) (x : Nat) (wx : World) : Prop where
 ib : wx.heap[w.heap.size]? = some (.cells (infC a b c d i e sc) 26 (0, 0))
 zb : wx.heap[w.heap.size + 1]? = some (.cells (fmC F0 none 0) 24 (0, 0))
 below : Lo w wx
 hx : w.heap.size + 2 <= x
section
variable {w wx w' : World} {a b c d : Int} {i : Inf} {e : Int} {sc : ByteArray} {x q : Nat}
theorem PX.low (h : PX w a b c d i e sc x wx) (hb : Lo wx w') : PX w a b c d i e sc x w' :=
 ⟨by rw [hb.block _ (lt_of_block h.ib)]; exact h.ib, by rw [hb.block _ (lt_of_block h.zb)]; exact h.zb, h.below.trans (hb.mono h.below.size), h.hx⟩
theorem PX.two (h : PX w a b c d i e sc x wx) (hq : w.heap.size + 2 <= q) (hs : Stays (Go.Proofs.YtfpfabmbipmipaaGreatDoor.two x q) wx w') : PX w a b c d i e sc x w' := by
 have hx := h.hx
 refine ⟨?_, ?_, h.below.trans (hs.below h.below.size (fun k hk hf => ?_)), h.hx⟩
 ·rw [hs.block _ (lt_of_block h.ib) (fun hf => by rcases hf with e | e <;> omega)]; exact h.ib
 ·rw [hs.block _ (lt_of_block h.zb) (fun hf => by rcases hf with e | e <;> omega)]; exact h.zb
 ·rcases hf with e | e <;> omega
theorem PX.only (h : PX w a b c d i e sc x wx) (hs : Stays (Go.Proofs.YtfpfabmbipmipaaGreatDoor.only x) wx w') : PX w a b c d i e sc x w' :=
 h.two h.hx (hs.mono (fun k _ hk => Or.inl hk))
end
theorem results_four {fn : Func} {a p b c : Tmp} {ty : TypeId} (h : fn.results = #[.tmp a, .cell p ty, .tmp b, .tmp c]) (tmps : Array Value) (P : Program) (w : World) :
  (results fn tmps).run P w = ((asAddr (tmps.getD p undef)).run P w).andThen fun ad w₁ => ((loadVar ty ad).run P w₁).andThen fun v w₂ => .ok (.tuple #[tmps.getD a undef, v, tmps.getD b undef, tmps.getD c undef]) w₂ := by
 simp only [results, h]
 simp [Sem.run_bind, Result.andThen]
theorem FmAt.below {w w' : World} {f : Fm} {so : OA} {sk : Nat} (h : FmAt w f so sk) (hb : Lo w w') : FmAt w' f so sk := ⟨h.S.below hb, h.sk_, h.num, h.size, h.sc, h.rc, h.wc, h.mo⟩
theorem okC_iff (f : Fm) (i : Inf) : okC f i ↔ (mayF i /\ (1 <= f.size /\ f.size <= 4608) /\ (0 <= f.num /\ f.num <= (if f.v then 68719476735 else 2147483647)) /\ (0 <= f.mo /\ f.mo <= 3 /\ (f.mo = 0 ∨ i.ch = 2))) /\ (saysZ f /\ saysR f i /\ saysW f i) /\ ((f.S.length : Int) = i.ch /\ ∀ j, j < f.S.length -> subOk (f.S.getD j Sb0) f.size (wdA i f.mo j)) :=
 ⟨fun h => ⟨⟨h.1.1, h.1.2.1, h.1.2.2.1, h.1.2.2.2.1⟩, ⟨h.1.2.2.2.2.1, h.1.2.2.2.2.2.1, h.1.2.2.2.2.2.2⟩, h.2⟩, fun h => ⟨⟨h.1.1, h.1.2.1, h.1.2.2.1, h.1.2.2.2, h.2.1.1, h.2.1.2.1, h.2.1.2.2⟩, h.2.2⟩⟩
theorem f_check (f : Fm) (so : OA) (sk : Nat) (a b c d : Int) (i : Inf) (e : Int) (s : ByteArray) (hr : I64 i.rate) (r : Int) (hyes : okC f i -> r = 0) (hno : ¬ okC f i -> r = 60) (w : World) (hf : FmAt w f so sk) (hL : Lay w) : Calls Tryz.prog 10 #[fmV f so sk, infV a b c d i e s] w fun en w' => en = .returned (.int .i64 r) /\ Lo w w' := by
 by_cases g0 : ¬ (mayF i /\ (1 <= f.size /\ f.size <= 4608) /\ (0 <= f.num /\ f.num <= (if f.v then 68719476735 else 2147483647)) /\ (0 <= f.mo /\ f.mo <= 3 /\ (f.mo = 0 ∨ i.ch = 2)))
 focus
  rw [hno (fun h => g0 ((okC_iff f i).1 h).1)]
  have K1 : Hid (∀ wx, Hid (FX w f so sk a b c d i e s wx) -> Calls Tryz.prog 35 #[fmV f so sk, infV a b c d i e s] wx fun en w' => en = .returned (.bool false) /\ Hid (FX w f so sk a b c d i e s w')) := fun wx hx => (f_fits f so sk a b c d i e s false (ff_iff (g0)) wx).mono fun en w' hh => ⟨hh.1, hx.out.next hh.2⟩
  clear hL hf
 rotate_left
 focus
  skip
  by_cases g1 : ¬ (saysZ f /\ saysR f i /\ saysW f i)
  focus
   rw [hno (fun h => g1 ((okC_iff f i).1 h).2.1)]
   have hfit := Classical.not_not.1 g0
   have K1 : Hid (∀ wx, Hid (FX w f so sk a b c d i e s wx) -> Calls Tryz.prog 35 #[fmV f so sk, infV a b c d i e s] wx fun en w' => en = .returned (.bool true) /\ Hid (FX w f so sk a b c d i e s w')) := fun wx hx => (f_fits f so sk a b c d i e s true (tt_iff (Classical.not_not.1 g0)) wx).mono fun en w' hh => ⟨hh.1, hx.out.next hh.2⟩
   have K2 : Hid (∀ wx, Hid (FX w f so sk a b c d i e s wx) -> Calls Tryz.prog 36 #[fmV f so sk, infV a b c d i e s] wx fun en w' => en = .returned (.bool false) /\ Hid (FX w f so sk a b c d i e s w')) := fun wx hx => (f_said f so sk a b c d i e s hfit.2.1 ⟨hfit.1.2.2, hr.2⟩ hfit.1.2.1 false (ff_iff (g1)) wx (hL.below hx.out.below)).mono fun en w' hh => ⟨hh.1, hx.out.next hh.2⟩
   clear hL hf hfit
  rotate_left
  focus
   skip
   by_cases g2 : ¬ ((f.S.length : Int) = i.ch /\ ∀ j, j < f.S.length -> subOk (f.S.getD j Sb0) f.size (wdA i f.mo j))
   focus
    rw [hno (fun h => g2 ((okC_iff f i).1 h).2.2)]
    have hfit := Classical.not_not.1 g0
    have K1 : Hid (∀ wx, Hid (FX w f so sk a b c d i e s wx) -> Calls Tryz.prog 35 #[fmV f so sk, infV a b c d i e s] wx fun en w' => en = .returned (.bool true) /\ Hid (FX w f so sk a b c d i e s w')) := fun wx hx => (f_fits f so sk a b c d i e s true (tt_iff (Classical.not_not.1 g0)) wx).mono fun en w' hh => ⟨hh.1, hx.out.next hh.2⟩
    have K2 : Hid (∀ wx, Hid (FX w f so sk a b c d i e s wx) -> Calls Tryz.prog 36 #[fmV f so sk, infV a b c d i e s] wx fun en w' => en = .returned (.bool true) /\ Hid (FX w f so sk a b c d i e s w')) := fun wx hx => (f_said f so sk a b c d i e s hfit.2.1 ⟨hfit.1.2.2, hr.2⟩ hfit.1.2.1 true (tt_iff (Classical.not_not.1 g1)) wx (hL.below hx.out.below)).mono fun en w' hh => ⟨hh.1, hx.out.next hh.2⟩
    have K3 : Hid (∀ wx, Hid (FX w f so sk a b c d i e s wx) -> Calls Tryz.prog 37 #[fmV f so sk, infV a b c d i e s] wx fun en w' => en = .returned (.bool false) /\ Hid (FX w f so sk a b c d i e s w')) := fun wx hx => (f_has f so sk a b c d i e s hfit.1.2.1 false (ff_iff (g2)) wx (hf.below hx.out.below)).mono fun en w' hh => ⟨hh.1, hx.out.next hh.2⟩
    clear hL hf hfit
   rotate_left
   focus
    skip
    rw [hyes ((okC_iff f i).2 ⟨Classical.not_not.1 g0, Classical.not_not.1 g1, Classical.not_not.1 g2⟩)]
    have hfit := Classical.not_not.1 g0
    have K1 : Hid (∀ wx, Hid (FX w f so sk a b c d i e s wx) -> Calls Tryz.prog 35 #[fmV f so sk, infV a b c d i e s] wx fun en w' => en = .returned (.bool true) /\ Hid (FX w f so sk a b c d i e s w')) := fun wx hx => (f_fits f so sk a b c d i e s true (tt_iff (Classical.not_not.1 g0)) wx).mono fun en w' hh => ⟨hh.1, hx.out.next hh.2⟩
    have K2 : Hid (∀ wx, Hid (FX w f so sk a b c d i e s wx) -> Calls Tryz.prog 36 #[fmV f so sk, infV a b c d i e s] wx fun en w' => en = .returned (.bool true) /\ Hid (FX w f so sk a b c d i e s w')) := fun wx hx => (f_said f so sk a b c d i e s hfit.2.1 ⟨hfit.1.2.2, hr.2⟩ hfit.1.2.1 true (tt_iff (Classical.not_not.1 g1)) wx (hL.below hx.out.below)).mono fun en w' hh => ⟨hh.1, hx.out.next hh.2⟩
    have K3 : Hid (∀ wx, Hid (FX w f so sk a b c d i e s wx) -> Calls Tryz.prog 37 #[fmV f so sk, infV a b c d i e s] wx fun en w' => en = .returned (.bool true) /\ Hid (FX w f so sk a b c d i e s w')) := fun wx hx => (f_has f so sk a b c d i e s hfit.1.2.1 true (tt_iff (Classical.not_not.1 g2)) wx (hf.below hx.out.below)).mono fun en w' hh => ⟨hh.1, hx.out.next hh.2⟩
    clear hL hf hfit
   rotate_left
  rotate_left 2
 rotate_left 3
 all_goals
  have HA : Hid (FX w f so sk a b c d i e s ((w.alloc (.cells (fmC f so sk) 24)).alloc (.cells (infC a b c d i e s) 26))) := FX.new w f so sk a b c d i e s
  go_enter Tryz.func10, Tryz.ntmps10
  go_upto_region 1 with fail
  generalize World.alloc _ _ = wa at *
  obtain ⟨f0, f1, f2, f3, f4, f5, f6, f7, i0, i1, i2, i3, i4, i5, i6, i7, i8⟩ := HA.out.cells
  go_wp2_with fail
  refine (K1.out _ HA).mono ?_
  rintro en w1 ⟨rfl, HB1⟩
  clear HA f0 f1 f2 f3 f4 f5 f6 f7 i0 i1 i2 i3 i4 i5 i6 i7 i8
  obtain ⟨f0, f1, f2, f3, f4, f5, f6, f7, i0, i1, i2, i3, i4, i5, i6, i7, i8⟩ := HB1.out.cells
  go_wp2_with fail
 ·go_ret
  exact ⟨rfl, HB1.out.below⟩
 ·refine (K2.out _ HB1).mono ?_
  rintro en w2 ⟨rfl, HB2⟩
  clear HB1 f0 f1 f2 f3 f4 f5 f6 f7 i0 i1 i2 i3 i4 i5 i6 i7 i8
  obtain ⟨f0, f1, f2, f3, f4, f5, f6, f7, i0, i1, i2, i3, i4, i5, i6, i7, i8⟩ := HB2.out.cells
  go_wp2_with fail
  go_ret
  exact ⟨rfl, HB2.out.below⟩
 rotate_left 2
 all_goals
  refine (K2.out _ HB1).mono ?_
  rintro en w2 ⟨rfl, HB2⟩
  clear HB1 f0 f1 f2 f3 f4 f5 f6 f7 i0 i1 i2 i3 i4 i5 i6 i7 i8
  obtain ⟨f0, f1, f2, f3, f4, f5, f6, f7, i0, i1, i2, i3, i4, i5, i6, i7, i8⟩ := HB2.out.cells
  go_wp2_with fail
  refine (K3.out _ HB2).mono ?_
  rintro en w3 ⟨rfl, HB3⟩
  clear HB2 f0 f1 f2 f3 f4 f5 f6 f7 i0 i1 i2 i3 i4 i5 i6 i7 i8
  obtain ⟨f0, f1, f2, f3, f4, f5, f6, f7, i0, i1, i2, i3, i4, i5, i6, i7, i8⟩ := HB3.out.cells
  go_wp2_with fail
  go_ret
  exact ⟨rfl, HB3.out.below⟩
theorem codeN_lt (n : Nat) (h : n < 68719476736) : ∀ b ∈ codeL n (clen n), b < 256 := codeL_lt n (clen n) (clen_range n).1 (clen_range n).2 (clen_bound n h)
theorem foot_only {p : Nat} {w w' : World} (h : Stays (foot p none) w w') : Stays (only p) w w' := h.mono (fun k _ hk => by
 rcases hk with hk | hk
 ·exact hk
 ·cases hk)
theorem f_bit (v : Bool) (w : World) : Calls Tryz.prog 57 #[.bool v] w fun e w' => e = .returned (.int .u64 (if v then 1 else 0)) /\ w' = w := by
 cases v
 ·show Calls _ _ _ _ fun e w' => e = .returned (.int .u64 0) /\ w' = w
  go_enter Tryz.func57, Tryz.ntmps57
  go_wp2_with fail
  go_ret
  exact ⟨rfl, rfl⟩
 ·show Calls _ _ _ _ fun e w' => e = .returned (.int .u64 1) /\ w' = w
  go_enter Tryz.func57, Tryz.ntmps57
  go_wp2_with fail
  go_ret
  exact ⟨rfl, rfl⟩
theorem f_wnum (n : Nat) (hn : n < 68719476736) (p : Nat) (ao : OA) (B : List Nat) (h01 : Bits01 B) (hB : B.length <= 1000000000) (w : World) (hw : WrB w p ao B) :
  Calls Tryz.prog 59 #[.pointer (some ⟨p, 0, none⟩), .int .i64 (n : Int)] w fun en w' => en = .returned (.tuple #[]) /\ ∃ ao', WrB w' p ao' (B ++ sbits (codeL n (clen n))) /\ Stays (foot p ao) w w' /\ Moved w.heap.size ao ao' := by
 have kc := S2.coded_ok n hn w
 rw [S2.codT_nat n hn, S2.codE_nat n hn] at kc
 have hbt : bytesOf (textOf (codeL n (clen n))) = codeL n (clen n) := bytesOf_textOf _ (codeN_lt n hn)
 have hsz : (textOf (codeL n (clen n))).size <= 7 := by rw [textOf_size, codeL_length]; exact (clen_range n).2
 generalize codeL n (clen n) = L at *
 generalize textOf L = s at *
 have HB := kQ hbt
 have HW := kQ hw
 clear hbt hw
 go_enter Tryz.func59, Tryz.ntmps59
 go_wp2_with fail
 refine kc.mono ?_
 rintro en w1 ⟨rfl, hb1⟩
 have H0 : Hid (WB w p ao ao B w.heap.size w1) := WB.start HW.out hb1 _ hb1.size
 clear kc hb1 HW
 go_wp2_with fail
 go_loopw [6, 14] (fun s6 s14 wr => ∃ (j : Nat) (aj : OA), j <= s.size /\ s14 = .int .i64 (j : Int) /\ WB w p ao aj (B ++ sbits ((bytesOf s).take j)) w.heap.size wr) (fun _ s14 _ => s.size - (intOf s14).toNat)
 case atStart => exact ⟨0, ao, Nat.zero_le _, rfl, by rw [List.take_zero, show sbits [] = [] from rfl, List.append_nil]; exact H0.out⟩
 case round =>
  clear H0
  obtain ⟨j, aj, hj, rfl, hwb⟩ := hrel
  by_cases hlt : j < s.size
  ·have hx : (s[j]'hlt).toNat < 256 := UInt8.toNat_lt _
   have HN : Hid (B ++ sbits ((bytesOf s).take (j + 1)) = B ++ sbits ((bytesOf s).take j) ++ putB (((s[j]'hlt).toNat : Nat) : Int) 8) := by
    show _ = _
    rw [S3.take_snoc s j hlt, sbits_append, put_8 _ hx, List.append_assoc]
   have o1 : Bits01 (B ++ sbits ((bytesOf s).take j)) := h01.append (sbits_01 _)
   have l1 : (B ++ sbits ((bytesOf s).take j)).length <= 2000000000 := by rw [List.length_append, sbits_length, List.length_take]; omega
   generalize B ++ sbits ((bytesOf s).take j) = BJ at *
   have kp := wput_all (B := BJ) (w := wr) (ao := aj) p (((s[j]'hlt).toNat : Nat) : Int) 8 (by omega) (by omega) o1 (by omega) hwb.wr
   have HWB := kQ hwb
   clear hwb
   go_wp2_with fail
   refine kp.mono ?_
   rintro en w3 ⟨rfl, ao3, hw3, hs3, hm3⟩
   have HE := kQ (HWB.out.put hw3 hs3 hm3)
   clear hw3 hs3 hm3 kp HWB
   go_wp2_with fail
   go_roundw
   case rel => exact ⟨j + 1, ao3, by omega, by go_num, by rw [HN.out]; exact HE.out⟩
   case measure => simp [intOf]; omega
  ·have HE : Hid (WB w p ao aj (B ++ sbits L) w.heap.size wr) := by
    have e : (bytesOf s).take j = L := by rw [HB.out, List.take_of_length_le]; rw [<- HB.out, bytesOf_length]; omega
    rw [<- e]; exact hwb
   clear hwb
   go_wp2_with fail
   go_end0
   exact ⟨rfl, aj, HE.out.wr, HE.out.st, HE.out.mv⟩
structure WH (w : World) (f : Fm) (so : OA) (sk : Nat) (a b c d : Int) (i : Inf) (e : Int) (s : ByteArray) (p : Nat) (aj : OA) (B : List Nat) (wx : World) : Prop where
 wb : WB w p none aj B (w.heap.size + 2) wx
 fb : wx.heap[w.heap.size]? = some (.cells (fmC f so sk) 24 (0, 0))
 ib : wx.heap[w.heap.size + 1]? = some (.cells (infC a b c d i e s) 26 (0, 0))
section
variable {w wx w' : World} {f : Fm} {so : OA} {sk : Nat} {a b c d : Int} {i : Inf} {e : Int} {s : ByteArray} {p : Nat} {aj ao' : OA} {B B' : List Nat}
theorem WH.put (h : WH w f so sk a b c d i e s p aj B wx) (hw : WrB w' p ao' B') (hS : Stays (foot p aj) wx w') (hM : Moved wx.heap.size aj ao') : WH w f so sk a b c d i e s p ao' B' w' :=
 ⟨h.wb.put hw hS hM, by rw [h.wb.box hS _ (Nat.le_refl _) (by omega)]; exact h.fb, by rw [h.wb.box hS _ (by omega) (by omega)]; exact h.ib⟩
theorem WH.low (h : WH w f so sk a b c d i e s p aj B wx) (hb : Lo wx w') : WH w f so sk a b c d i e s p aj B w' :=
 ⟨h.wb.low hb, by rw [hb.block _ (lt_of_block h.fb)]; exact h.fb, by rw [hb.block _ (lt_of_block h.ib)]; exact h.ib⟩
theorem WH.cells (h : WH w f so sk a b c d i e s p aj B wx) : wx.cell? ⟨w.heap.size, 0, none⟩ = some (.bool f.v) /\ wx.cell? ⟨w.heap.size, 1, none⟩ = some (.int .i64 f.num) /\ wx.cell? ⟨w.heap.size, 2, none⟩ = some (.int .i64 f.size) /\ wx.cell? ⟨w.heap.size, 3, none⟩ = some (.int .i64 f.sc) /\ wx.cell? ⟨w.heap.size, 4, none⟩ = some (.int .i64 f.rc) /\ wx.cell? ⟨w.heap.size, 5, none⟩ = some (.int .i64 f.wc) /\ wx.cell? ⟨w.heap.size, 6, none⟩ = some (.int .i64 f.mo) /\ wx.cell? ⟨w.heap.size, 7, none⟩ = some (.slice so f.S.length sk) /\ wx.cell? ⟨w.heap.size + 1, 0, none⟩ = some (.int .i64 a) /\ wx.cell? ⟨w.heap.size + 1, 1, none⟩ = some (.int .i64 b) /\ wx.cell? ⟨w.heap.size + 1, 2, none⟩ = some (.int .i64 c) /\ wx.cell? ⟨w.heap.size + 1, 3, none⟩ = some (.int .i64 d) /\ wx.cell? ⟨w.heap.size + 1, 4, none⟩ = some (.int .i64 i.rate) /\ wx.cell? ⟨w.heap.size + 1, 5, none⟩ = some (.int .i64 i.ch) /\ wx.cell? ⟨w.heap.size + 1, 6, none⟩ = some (.int .i64 i.wd) /\ wx.cell? ⟨w.heap.size + 1, 7, none⟩ = some (.int .i64 e) /\ wx.cell? ⟨w.heap.size + 1, 8, none⟩ = some (.string s) := by
 obtain ⟨z0, z1, z2, z3, z4, z5, z6, z7⟩ := fm_cells h.fb
 obtain ⟨y0, y1, y2, y3, y4, y5, y6, y7, y8⟩ := inf_cells h.ib
 exact ⟨z0, z1, z2, z3, z4, z5, z6, z7, y0, y1, y2, y3, y4, y5, y6, y7, y8⟩
end
theorem sizL_lt (f : Fm) (h : 1 <= f.size /\ f.size <= 4608) (hz : f.sc = 6 -> f.size <= 256) : ∀ b ∈ sizL f, b < 256 := fun b hb => by
 unfold sizL at hb
 split at hb
 ·rename_i h6
  have := hz h6
  rw [List.mem_singleton] at hb; omega
 ·split at hb
  ·rcases List.mem_cons.1 hb with e | hb
   ·omega
   ·rw [List.mem_singleton] at hb; omega
  ·cases hb
theorem ratL_lt (f : Fm) (i : Inf) (hr : 1 <= i.rate) (h : saysR f i) : ∀ b ∈ ratL f i, b < 256 := fun b hb => by
 unfold ratL at hb
 split at hb
 ·rename_i h12
  rw [List.mem_singleton] at hb
  rcases h with h | h | h | h | h <;> omega
 ·split at hb
  ·rename_i h12 h13
   rcases List.mem_cons.1 hb with e | hb
   ·rcases h with h | h | h | h | h <;> omega
   ·rw [List.mem_singleton] at hb; omega
  ·split at hb
   ·rename_i h12 h13 h14
    rcases List.mem_cons.1 hb with e | hb
    ·rcases h with h | h | h | h | h <;> omega
    ·rw [List.mem_singleton] at hb; omega
   ·cases hb
theorem size6 {f : Fm} {i : Inf} (h : okH f i) (h6 : f.sc = 6) : f.size <= 256 := by
 have hz := h.2.2.2.2.1
 have h1 := h.2.1
 rcases hz.2 with g | g | g
 ·rw [h6, wid_37.2.2.2.1] at g; omega
 ·exact g.2
 ·omega
theorem num36 {f : Fm} {i : Inf} (h : okH f i) : 0 <= f.num /\ f.num < 68719476736 := by
 have h1 := h.2.2.1
 refine ⟨h1.1, ?_⟩
 have h2 := h1.2
 cases hv : f.v with
 | true => rw [hv] at h2; simp at h2; omega
 | false => rw [hv] at h2; simp at h2; omega
theorem hedL_lt (f : Fm) (i : Inf) (h : okH f i) : ∀ b ∈ hedL f i, b < 256 := fun b hb => by
 have hn := num36 h
 obtain ⟨hi, hsz, hnum, hmo, hz, hr, hw⟩ := h
 have hrr := rc_rng hr
 have hwr := wc_rng hw
 have hzz := hz.1
 unfold hedL at hb
 rcases List.mem_append.1 hb with hb | hb
 ·rcases List.mem_append.1 hb with hb | hb
  ·rcases List.mem_append.1 hb with hb | hb
   ·unfold fourL at hb
    have hcc : 0 <= (if f.mo = 0 then i.ch - 1 else 7 + f.mo) /\ (if f.mo = 0 then i.ch - 1 else 7 + f.mo) < 16 := by
     have := hi.1
     split <;> omega
    have hv : (if f.v then 1 else 0 : Nat) < 2 := by split <;> omega
    generalize (if f.mo = 0 then i.ch - 1 else 7 + f.mo) = cc at *
    generalize (if f.v then 1 else 0 : Nat) = v at *
    simp only [List.mem_cons, List.not_mem_nil, or_false] at hb
    omega
   ·exact codeN_lt _ (by omega) b hb
  ·exact sizL_lt f hsz (fun h6 => size6 ⟨hi, hsz, hnum, hmo, hz, hr, hw⟩ h6) b hb
 ·exact ratL_lt f i hi.2.2 hr b hb
end Go.Proofs.YtfpfabmbipmipaaGreatDoor
