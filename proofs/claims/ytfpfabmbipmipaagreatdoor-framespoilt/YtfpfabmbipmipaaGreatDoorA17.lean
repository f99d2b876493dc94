/- Own text. -/
import Derived.Test.YtfpfabmbipmipaaGreatDoorA16
import Derived.Shelf.Abstract
import Derived.Laws.CopyRow
import Derived.Laws.IdiomCopy
import Derived.Laws.OwnMore
set_option linter.unusedSimpArgs false
set_option linter.unusedVariables false
set_option maxRecDepth 20000
set_option maxHeartbeats 12800000
namespace Go.Proofs.YtfpfabmbipmipaaGreatDoor
open Go.RowKit
theorem rsame_same (c : Rc) (pa : OA) (pc : Nat) (ea : OA) (ec : Nat) (pb : OA) (pd : Nat) (eb : OA) (ed : Nat) (w : World) (hr : RcAt w c pa ea) (hq : RcAt w c pb eb) :
  Calls Tryz.prog 112 #[riceV c pa pc ea ec, riceV c pb pd eb ed] w fun e w' => e = .returned (.bool true) /\ Lo w w' := by
 have HR := kQ hr
 have HQ := kQ hq
 have hlP := hr.P.len
 have hlE := hr.E.len
 have HA0 : Hid (RB w c pa pc ea ec ((w.alloc (.cells (riceC c pa pc ea ec) 65)).alloc (.cells (riceC c pb pd eb ed) 65)) /\ ((w.alloc (.cells (riceC c pa pc ea ec) 65)).alloc (.cells (riceC c pb pd eb ed) 65)).heap[w.heap.size + 1]? = some (.cells (riceC c pb pd eb ed) 65 (0, 0))) := by
  refine ⟨(RB.new w c pa pc ea ec).next aQ, ?_⟩
  have hh := heap_alloc_new (w.alloc (.cells (riceC c pa pc ea ec) 65)) (.cells (riceC c pb pd eb ed) 65)
  rw [show (w.alloc (.cells (riceC c pa pc ea ec) 65)).heap.size = w.heap.size + 1 from by simp] at hh
  exact hh
 clear hr hq
 go_enter Tryz.func112, Tryz.ntmps112
 go_wp2_with fail
 generalize World.alloc _ _ = wa at *
 go_loopw [5] (fun t wr => ∃ k : Nat, k <= c.P.length /\ t = .int .i64 (k : Int) /\ RB w c pa pc ea ec wr /\ wr.heap[w.heap.size + 1]? = some (.cells (riceC c pb pd eb ed) 65 (0, 0))) (fun t _ => c.P.length - (intOf t).toNat)
 case atStart => exact ⟨0, Nat.zero_le _, rfl, HA0.out⟩
 case round =>
  obtain ⟨k, hk, rfl, h1, h2⟩ := hrel
  have HA : Hid (RB w c pa pc ea ec wr /\ wr.heap[w.heap.size + 1]? = some (.cells (riceC c pb pd eb ed) 65 (0, 0))) := ⟨h1, h2⟩
  have x2 := h1.c2
  have y2 : wr.cell? ⟨w.heap.size + 1, 2, none⟩ = some (.slice pb c.P.length pd) := by rw [cell_of_row _ _ _ _ _ _ h2]; rfl
  by_cases hlt : k < c.P.length
  ·obtain ⟨b1, o1, e1, q1⟩ := HR.out.P.at k hlt
   obtain ⟨b2, o2, e2, q2⟩ := HQ.out.P.at k hlt
   have r1 := q1 wr h1.below
   have r2 := q2 wr h1.below
   rw [e1] at x2
   rw [e2] at y2
   clear q1 q2 e1 e2 h1 h2
   generalize c.P.getD k 0 = x at *
   go_wp2_with fail
   go_quiet (fail)
   go_wp2_with fail
   go_roundw
   case rel => exact ⟨k + 1, by omega, by go_num, HA.out.1.drewN _, HA.out.2⟩
   case measure => simp [intOf]; omega
  ·clear h1 h2
   go_wp2_with fail
   clear HA0
   have HA0 := HA
   clear HA
   go_loopw [6] (fun t wr => ∃ k : Nat, k <= c.E.length /\ t = .int .i64 (k : Int) /\ RB w c pa pc ea ec wr /\ wr.heap[w.heap.size + 1]? = some (.cells (riceC c pb pd eb ed) 65 (0, 0))) (fun t _ => c.E.length - (intOf t).toNat)
   case atStart => exact ⟨0, Nat.zero_le _, rfl, HA0.out⟩
   case round =>
    obtain ⟨k, hk, rfl, h1, h2⟩ := hrel
    have HA : Hid (RB w c pa pc ea ec wr /\ wr.heap[w.heap.size + 1]? = some (.cells (riceC c pb pd eb ed) 65 (0, 0))) := ⟨h1, h2⟩
    have x3 := h1.c3
    have y3 : wr.cell? ⟨w.heap.size + 1, 3, none⟩ = some (.slice eb c.E.length ed) := by rw [cell_of_row _ _ _ _ _ _ h2]; rfl
    by_cases hlt : k < c.E.length
    ·obtain ⟨b1, o1, e1, q1⟩ := HR.out.E.at k hlt
     obtain ⟨b2, o2, e2, q2⟩ := HQ.out.E.at k hlt
     have r1 := q1 wr h1.below
     have r2 := q2 wr h1.below
     rw [e1] at x3
     rw [e2] at y3
     clear q1 q2 e1 e2 h1 h2
     generalize c.E.getD k 0 = x at *
     go_wp2_with fail
     go_quiet (fail)
     go_wp2_with fail
     go_roundw
     case rel => exact ⟨k + 1, by omega, by go_num, HA.out.1.drewN _, HA.out.2⟩
     case measure => simp [intOf]; omega
    ·clear h1 h2
     go_wp2_with fail
     go_ret
     exact ⟨rfl, HA.out.1.below⟩
theorem sub_same (q : Sb) (ca : OA) (cc : Nat) (pa : OA) (pc : Nat) (ea : OA) (ec : Nat) (cb : OA) (cd : Nat) (pb : OA) (pd : Nat) (eb : OA) (ed : Nat) (w : World) (hr : SbAt w q ca pa ea) (hq : SbAt w q cb pb eb) :
  Calls Tryz.prog 56 #[subV q ca cc pa pc ea ec, subV q cb cd pb pd eb ed] w fun e w' => e = .returned (.bool true) /\ Lo w w' := by
 have HA0 : Hid (((w.alloc (.cells (subC q ca cc pa pc ea ec) 67)).alloc (.cells (subC q cb cd pb pd eb ed) 67)).heap[w.heap.size]? = some (.cells (subC q ca cc pa pc ea ec) 67 (0, 0)) /\ ((w.alloc (.cells (subC q ca cc pa pc ea ec) 67)).alloc (.cells (subC q cb cd pb pd eb ed) 67)).heap[w.heap.size + 1]? = some (.cells (subC q cb cd pb pd eb ed) 67 (0, 0)) /\ Lo w ((w.alloc (.cells (subC q ca cc pa pc ea ec) 67)).alloc (.cells (subC q cb cd pb pd eb ed) 67))) := by
  refine ⟨heap_two _ _ _, ?_, aQ.alloc (by simp) _⟩
  have hh := heap_alloc_new (w.alloc (.cells (subC q ca cc pa pc ea ec) 67)) (.cells (subC q cb cd pb pd eb ed) 67)
  rw [show (w.alloc (.cells (subC q ca cc pa pc ea ec) 67)).heap.size = w.heap.size + 1 from by simp] at hh
  exact hh
 have KI : Hid (∀ wx, Lo w wx -> Calls Tryz.prog 55 #[.slice ca q.C.length cc, .slice cb q.C.length cd] wx fun e w' => e = .returned (.bool true) /\ ∃ n, w' = wx.drewN n) := fun wx hb => ints_same q.C ca cb cc cd wx (hr.C.below hb) (hq.C.below hb)
 have KR : Hid (∀ wx, Lo w wx -> G1 112 #[riceV q.R pa pc ea ec, riceV q.R pb pd eb ed] wx (.bool true)) := fun wx hb => rsame_same q.R pa pc ea ec pb pd eb ed wx (hr.R.below hb) (hq.R.below hb)
 clear hr hq
 go_enter Tryz.func56, Tryz.ntmps56
 go_upto_region 1 with fail
 generalize World.alloc _ _ = wa at *
 obtain ⟨x0, x1, x2, x3, x4, x5, x6, x7, x8, x9⟩ := sub_cells HA0.out.1
 obtain ⟨y0, y1, y2, y3, y4, y5, y6, y7, y8, y9⟩ := sub_cells HA0.out.2.1
 go_wp2_with fail
 refine (KI.out wa HA0.out.2.2).mono ?_
 rintro e w2 ⟨rfl, n2, hw2⟩
 have hb2 : Lo wa w2 := by rw [hw2]; exact below_drewN _ _
 have HB2 := kQ (HA0.out.2.2.trans (hb2.mono HA0.out.2.2.size))
 have h1 : w2.heap[w.heap.size]? = some (.cells (subC q ca cc pa pc ea ec) 67 (0, 0)) := by rw [hb2.block _ (lt_of_block HA0.out.1)]; exact HA0.out.1
 have h2 : w2.heap[w.heap.size + 1]? = some (.cells (subC q cb cd pb pd eb ed) 67 (0, 0)) := by rw [hb2.block _ (lt_of_block HA0.out.2.1)]; exact HA0.out.2.1
 clear x0 x1 x2 x3 x4 x5 x6 x7 x8 x9 y0 y1 y2 y3 y4 y5 y6 y7 y8 y9 hb2 hw2
 obtain ⟨x0, x1, x2, x3, x4, x5, x6, x7, x8, x9⟩ := sub_cells h1
 obtain ⟨y0, y1, y2, y3, y4, y5, y6, y7, y8, y9⟩ := sub_cells h2
 clear h1 h2
 go_wp2_with fail
 refine (KR.out w2 HB2.out).mono ?_
 rintro e w3 ⟨rfl, hb3⟩
 have HB3 := kQ (HB2.out.trans (hb3.mono HB2.out.size))
 clear hb3 x0 x1 x2 x3 x4 x5 x6 x7 x8 x9 y0 y1 y2 y3 y4 y5 y6 y7 y8 y9
 go_wp2_with fail
 go_ret
 exact ⟨rfl, HB3.out⟩
def fixR (o : Int) (l : List Int) : Option (List Int) := if 0 <= o /\ o <= 4 /\ o <= (l.length : Int) then some (leftN (wF o.toNat) 0 l (l.length - o.toNat)) else none
def unfR (o : Int) (warm l : List Int) : Option (List Int) := if 0 <= o /\ o <= 4 /\ (warm.length : Int) = o then some (wholeN (wF o.toNat) 0 warm l l.length) else none
def mayB (C : List Int) (sh : Int) : Bool := decide (1 <= C.length) && decide (C.length <= 32) && decide (0 <= sh) && decide (sh <= 31)
def lpcR (C : List Int) (sh : Int) (l : List Int) : Option (List Int) := if mayB C sh = true /\ C.length <= l.length then some (leftN C sh.toNat l (l.length - C.length)) else none
def unlR (C : List Int) (sh : Int) (warm l : List Int) : Option (List Int) := if mayB C sh = true /\ warm.length = C.length then some (wholeN C sh.toNat warm l l.length) else none
theorem mayB_iff (C : List Int) (sh : Int) : mayB C sh = true ↔ 1 <= C.length /\ C.length <= 32 /\ 0 <= sh /\ sh <= 31 := by unfold mayB; simp [and_assoc]
theorem make_ints (n : Nat) (hn : n <= 17592186044415) (w : World) : (Instr.makeSlice 56 (.int .i64 (n : Int)) (.int .i64 (n : Int))).run Tryz.prog w = .ok (.slice (some ⟨w.heap.size, 0, none⟩) n n) (w.alloc (.cells (madeCells #[.int .i64 0] n) 3)) := by
 obtain ⟨i, h1, h2, h3, h4⟩ := int_info
 have hh := run_make (P := Tryz.prog) w 56 3 i _ undI3 h1 h2 .i64 .i64 (n : Int) (n : Int) (by omega) (Int.le_refl _) (by rw [h4]; omega) (by omega)
 rw [h3] at hh
 simpa [Value.cells] using hh
structure Fill (w : World) (g : Nat) (L : List Int) (i : Nat) (wx : World) : Prop where
 row : ∃ cs : Array Value, wx.heap[g]? = some (.cells cs 3 (0, 0)) /\ ∀ j, j < L.length -> cs[j]? = some (.int .i64 (if j < i then L.getD j 0 else 0))
 below : Lo w wx
 le : w.heap.size <= g
section
variable {w wx w' : World} {g : Nat} {L : List Int} {i : Nat}
theorem Fill.made (w wx : World) (hb : Lo w wx) (L : List Int) : Fill w wx.heap.size L 0 (wx.alloc (.cells (madeCells #[.int .i64 0] L.length) 3)) := by
 refine ⟨⟨_, heap_alloc_new _ _, fun j hj => ?_⟩, hb.alloc hb.size _, hb.size⟩
 rw [if_neg (Nat.not_lt_zero _)]
 simp only [madeCells, Array.getElem?_map, Array.getElem?_range, hj, if_true, Option.map_some]
 have hs : (#[.int .i64 0] : Array Value).size = 1 := rfl
 rw [hs, Nat.mod_one]
 rfl
theorem Fill.low (h : Fill w g L i wx) (hb : Lo wx w') : Fill w g L i w' := by
 obtain ⟨cs, h1, h2⟩ := h.row
 exact ⟨⟨cs, by rw [hb.block _ (lt_of_block h1)]; exact h1, h2⟩, h.below.trans (hb.mono h.below.size), h.le⟩
theorem Fill.drew (h : Fill w g L i wx) : Fill w g L i wx.drew := h.low dQ
theorem Fill.cell (h : Fill w g L i wx) (j : Nat) (hj : j < L.length) : wx.cell? ⟨g, j, none⟩ = some (.int .i64 (if j < i then L.getD j 0 else 0)) := by
 obtain ⟨cs, h1, h2⟩ := h.row
 rw [cell_row h1]; exact h2 j hj
theorem Fill.frozen (h : Fill w g L i wx) (j : Nat) : wx.frozen? ⟨g, j, none⟩ = false := by
 obtain ⟨cs, h1, _⟩ := h.row
 simp [World.frozen?, h1]
theorem Fill.set (h : Fill w g L i wx) (hi : i < L.length) : Fill w g L (i + 1) (wx.setCell ⟨g, i, none⟩ (.int .i64 (L.getD i 0))) := by
 obtain ⟨cs, h1, h2⟩ := h.row
 refine ⟨⟨cs.setIfInBounds i (.int .i64 (L.getD i 0)), heap_setCell_same _ _ _ _ _ _ h1, fun j hj => ?_⟩, h.below.setCell h.le _, h.le⟩
 rw [Array.getElem?_setIfInBounds]
 by_cases e : i = j
 ·subst e
  have hlt : i < cs.size := by
   rcases Nat.lt_or_ge i cs.size with h3 | h3
   ·exact h3
   ·have := h2 i hi; rw [Array.getElem?_eq_none h3] at this; cases this
  rw [if_pos rfl, if_pos hlt, if_pos (by omega)]
 ·rw [if_neg e, h2 j hj]
  by_cases e2 : j < i
  ·rw [if_pos e2, if_pos (by omega)]
  ·rw [if_neg e2, if_neg (by omega)]
theorem Fill.other (h : Fill w g L i wx) (p : Addr) (u : Value) (hp : p.block ≠ g) (hl : w.heap.size <= p.block) : Fill w g L i (wx.setCell p u) := by
 obtain ⟨cs, h1, h2⟩ := h.row
 exact ⟨⟨cs, by rw [Below.heap_setCell wx p u g (fun e => hp e.symm)]; exact h1, h2⟩, h.below.setCell hl _, h.le⟩
theorem Fill.ints (h : Fill w g L L.length wx) (hl : L.length <= 17592186044415) (hn : Rng L) : IntsAt wx (some ⟨g, 0, none⟩) L :=
 ⟨hl, hn, fun _ => ⟨g, 0, rfl, fun j hj => by rw [Nat.zero_add, h.cell j hj, if_pos hj]⟩⟩
end
theorem getD_shr (l : List Int) (k j : Nat) : (shrL l k).getD j 0 = l.getD j 0 / 2 ^ k := by
 unfold shrL
 rw [List.getD_eq_getElem?_getD, List.getD_eq_getElem?_getD, List.getElem?_map]
 cases l[j]? with
 | none => simp
 | some x => rfl
theorem getD_shl (l : List Int) (k j : Nat) : (shlL l k).getD j 0 = wrap64 (l.getD j 0 * 2 ^ k) := by
 unfold shlL
 rw [List.getD_eq_getElem?_getD, List.getD_eq_getElem?_getD, List.getElem?_map]
 cases l[j]? with
 | none => simp [wrap64]
 | some x => rfl
theorem foreS_part (C l : List Int) (i n k : Nat) (hk : k <= n) : foreS C ((l.drop i).take n) n k = foreS C l (i + n) k := by
 induction k with
 | zero => rfl
 | succ k ih =>
  unfold foreS
  rw [ih (by omega), getD_part l i n (n - 1 - k) (by omega), show i + (n - 1 - k) = i + n - 1 - k by omega]
theorem foreN_part (C : List Int) (sh : Nat) (l : List Int) (i : Nat) : foreN C sh ((l.drop i).take C.length) C.length = foreN C sh l (i + C.length) := by
 unfold foreN; rw [foreS_part C l i C.length C.length (Nat.le_refl _)]
def shB (k : Int) : Bool := decide (0 <= k) && decide (k <= 31)
theorem shB_iff (k : Int) : shB k = true ↔ 0 <= k /\ k <= 31 := by unfold shB; simp
theorem mayB_sh (C : List Int) (sh : Int) (h1 : 1 <= C.length) (h2 : C.length <= 32) : mayB C sh = shB sh := by
 unfold mayB shB; simp [h1, h2]
theorem qsh_spec (k : Int) (w : World) : Calls Tryz.prog 228 #[.int .i64 k] w fun e w' => e = .returned (.bool (shB k)) /\ w' = w := by
 by_cases g1 : ¬ 0 <= k
 rotate_left
 focus
  skip
  by_cases g2 : ¬ k <= 31
  rotate_left
  ·skip
   have hF : shB k = true := by rw [shB_iff]; omega
   rw [hF]
   clear hF
   go_enter Tryz.func228, Tryz.ntmps228
   go_wp2_with fail
   go_ret
   exact ⟨rfl, rfl⟩
 rotate_left
 all_goals
  have hF : shB k = false := by
   cases h : shB k with
   | false => rfl
   | true => rw [shB_iff] at h; omega
  rw [hF]
  clear hF
  go_enter Tryz.func228, Tryz.ntmps228
  go_wp2_with fail
  go_ret
  exact ⟨rfl, rfl⟩
theorem qmay_spec (C : List Int) (sh : Int) (ca : OA) (cc : Nat) (w : World) (hC : IntsAt w ca C) : Calls Tryz.prog 207 #[.slice ca C.length cc, .int .i64 sh] w fun e w' => e = .returned (.bool (mayB C sh)) /\ w' = w := by
 have h1 := hC.len
 clear hC
 by_cases g1 : ¬ 1 <= C.length
 rotate_left
 focus
  skip
  by_cases g2 : ¬ C.length <= 32
  rotate_left
  ·skip
   rw [mayB_sh C sh (by omega) (by omega)]
   have ks := qsh_spec sh w
   generalize shB sh = bb at *
   go_enter Tryz.func207, Tryz.ntmps207
   go_wp2_with fail
   refine ks.mono ?_
   rintro e w2 ⟨rfl, hw2⟩
   subst hw2
   clear ks
   go_wp2_with fail
   go_ret
   exact ⟨rfl, rfl⟩
 rotate_left
 all_goals
  have hF : mayB C sh = false := by
   cases h : mayB C sh with
   | false => rfl
   | true => rw [mayB_iff] at h; omega
  rw [hF]
  clear hF
  go_enter Tryz.func207, Tryz.ntmps207
  go_wp2_with fail
  go_ret
  exact ⟨rfl, rfl⟩
theorem qcoefs_spec (o : Nat) (ho : o <= 4) (w : World) : Calls Tryz.prog 206 #[.int .i64 (o : Int)] w fun e w' => ∃ ca cc, e = .returned (.slice ca (wF o).length cc) /\ IntsAt w' ca (wF o) /\ Lo w w' := by
 rcases (show o = 0 ∨ o = 1 ∨ o = 2 ∨ o = 3 ∨ o = 4 by omega) with rfl | rfl | rfl | rfl | rfl
 ·go_enter Tryz.func206, Tryz.ntmps206
  go_wp2_with fail
  go_ret
  exact ⟨none, 0, rfl, IntsAt.nil w, Below.refl _ _⟩
 focus
  have HI : Hid (IntsAt (w.alloc (.cells #[.int .i64 1] 3)) (some ⟨w.heap.size, 0, none⟩) (wF 1)) := ints_new w (wF 1) (by decide) (by decide)
  have HB : Hid (Lo w (w.alloc (.cells #[.int .i64 1] 3))) := aQ
 rotate_left
 focus
  have HI : Hid (IntsAt (w.alloc (.cells #[.int .i64 2, .int .i64 (-1)] 3)) (some ⟨w.heap.size, 0, none⟩) (wF 2)) := ints_new w (wF 2) (by decide) (by decide)
  have HB : Hid (Lo w (w.alloc (.cells #[.int .i64 2, .int .i64 (-1)] 3))) := aQ
 rotate_left
 focus
  have HI : Hid (IntsAt (w.alloc (.cells #[.int .i64 3, .int .i64 (-3), .int .i64 1] 3)) (some ⟨w.heap.size, 0, none⟩) (wF 3)) := ints_new w (wF 3) (by decide) (by decide)
  have HB : Hid (Lo w (w.alloc (.cells #[.int .i64 3, .int .i64 (-3), .int .i64 1] 3))) := aQ
 rotate_left
 focus
  have HI : Hid (IntsAt (w.alloc (.cells #[.int .i64 4, .int .i64 (-6), .int .i64 4, .int .i64 (-1)] 3)) (some ⟨w.heap.size, 0, none⟩) (wF 4)) := ints_new w (wF 4) (by decide) (by decide)
  have HB : Hid (Lo w (w.alloc (.cells #[.int .i64 4, .int .i64 (-6), .int .i64 4, .int .i64 (-1)] 3))) := aQ
 rotate_left
 all_goals
  go_enter Tryz.func206, Tryz.ntmps206
  go_wp2_with fail
  go_ret
  exact ⟨_, _, rfl, HI.out, HB.out⟩
structure Lin (b : Nat) (C : List Int) (ca : OA) (cc sh : Nat) (w : World) : Prop where
 cf : w.cell? ⟨b, 0, none⟩ = some (.slice ca C.length cc)
 sh : w.cell? ⟨b + 1, 0, none⟩ = some (.int .i64 (sh : Int))
 ints : IntsAt w ca C
theorem Lin.below {b : Nat} {C : List Int} {ca : OA} {cc sh : Nat} {w w' : World} (h : Lin b C ca cc sh w) (hb : Lo w w') : Lin b C ca cc sh w' :=
 ⟨by rw [World.cell?_of_block (w := w) (hb.block b (lt_cell h.cf))]; exact h.cf, by rw [World.cell?_of_block (w := w) (hb.block (b + 1) (lt_cell h.sh))]; exact h.sh, h.ints.below hb⟩
abbrev linV (b : Nat) : Value := .func (.func 227) #[] #[.pointer (some ⟨b, 0, none⟩), .pointer (some ⟨b + 1, 0, none⟩)]
theorem qlinear_spec (C : List Int) (ca : OA) (cc sh : Nat) (w : World) (hC : IntsAt w ca C) : Calls Tryz.prog 205 #[.slice ca C.length cc, .int .i64 (sh : Int)] w fun e w' => ∃ b, e = .returned (linV b) /\ Lin b C ca cc sh w' /\ Lo w w' := by
 have HB : Hid (Lo w ((w.alloc (.cells #[.slice ca C.length cc] 56)).alloc (.cells #[.int .i64 (sh : Int)] 3))) := aQ.alloc (by simp) _
 have HL : Hid (Lin w.heap.size C ca cc sh ((w.alloc (.cells #[.slice ca C.length cc] 56)).alloc (.cells #[.int .i64 (sh : Int)] 3))) := by
  refine ⟨?_, ?_, hC.below HB.out⟩
  ·rw [cell_row (heap_two _ _ _)]; rfl
  ·have hh := heap_alloc_new (w.alloc (.cells #[.slice ca C.length cc] 56)) (.cells #[.int .i64 (sh : Int)] 3)
   rw [show (w.alloc (.cells #[.slice ca C.length cc] 56)).heap.size = w.heap.size + 1 from by simp] at hh
   rw [cell_row hh]; rfl
 clear hC
 go_enter Tryz.func205, Tryz.ntmps205
 go_wp2_with fail
 go_ret
 exact ⟨_, rfl, HL.out, HB.out⟩
theorem qclos_spec (C past : List Int) (ca pa : OA) (cc pc : Nat) (sh b : Nat) (hsh : sh <= 31) (hCp : C.length <= past.length) (w : World) (hL : Lin b C ca cc sh w) (hp : IntsAt w pa past) :
  Calls Tryz.prog 227 (#[.slice pa past.length pc] ++ #[.pointer (some ⟨b, 0, none⟩), .pointer (some ⟨b + 1, 0, none⟩)]) w fun e w' => e = .returned (.int .i64 (foreN C sh past past.length)) /\ w' = w := by
 have h1 := hp.len
 have h2 := hL.ints.len
 have c1 := hL.cf
 have c2 := hL.sh
 have HC := kQ hL.ints
 have HP := kQ hp
 have HF : Hid (foreN C sh past past.length = foreS C past past.length C.length / 2 ^ sh) := rfl
 clear hL hp
 go_enter Tryz.func227, Tryz.ntmps227
 go_wp2_with fail
 go_loopw [5, 6, 7, 10] (fun s s6 s7 t wr => ∃ k : Nat, k <= C.length /\ t = .int .i64 (k : Int) /\ s = .int .i64 (foreS C past past.length k) /\ wr = w) (fun _ _ _ t _ => C.length - (intOf t).toNat)
 case atStart => exact ⟨0, Nat.zero_le _, rfl, rfl, rfl⟩
 case round =>
  obtain ⟨k, hk, rfl, rfl, rfl⟩ := hrel
  have hfr := foreS_rng C past past.length k
  by_cases hlt : k < C.length
  ·obtain ⟨b1, o1, rfl, q1⟩ := HC.out.at k hlt
   obtain ⟨b2, o2, rfl, q2⟩ := HP.out.at (past.length - 1 - k) (by omega)
   have r1 := q1 wr (Below.refl _ _)
   have r2 := q2 wr (Below.refl _ _)
   have HN : Hid (foreS C past past.length (k + 1) = wrap64 (foreS C past past.length k + wrap64 (C.getD k 0 * past.getD (past.length - 1 - k) 0))) := rfl
   have hix : (past.length : Int) - 1 - (k : Int) = ((past.length - 1 - k : Nat) : Int) := by omega
   have hil : past.length - 1 - k < past.length := by omega
   clear q1 q2
   generalize C.getD k 0 = x at *
   generalize past.getD (past.length - 1 - k) 0 = y at *
   generalize past.length - 1 - k = ix at *
   generalize foreS C past past.length k = su at *
   go_wp2_with fail
   go_roundw
   case rel => exact ⟨k + 1, by omega, by go_num, by rw [HN.out], trivial⟩
   case measure => simp [intOf]; omega
  ·have hke : k = C.length := by omega
   subst hke
   generalize foreS C past past.length C.length = su at *
   have hs2 : (sh : Int) <= 31 := by omega
   go_wp2_with fail
   go_ret
   exact ⟨by rw [HF.out]; rfl, rfl⟩
structure Made (w : World) (ao : OA) (cap : Nat) (L : List Int) (wx : World) : Prop where
 at_ : ∃ g, ao = some ⟨g, 0, none⟩ /\ w.heap.size <= g /\ ∃ cs : Array Value, wx.heap[g]? = some (.cells cs 3 (0, 0)) /\ ∀ j, j < L.length -> cs[j]? = some (.int .i64 (L.getD j 0))
 cap_ : L.length <= cap
 len : L.length <= 17592186044415
 num : Rng L
 below : Lo w wx
section
variable {w wx w' w0 : World} {ao : OA} {cap : Nat} {L : List Int}
theorem Made.ints (h : Made w ao cap L wx) : IntsAt wx ao L := by
 obtain ⟨g, rfl, _, cs, h1, h2⟩ := h.at_
 exact ⟨h.len, h.num, fun _ => ⟨g, 0, rfl, fun j hj => by rw [cell_row h1, Nat.zero_add]; exact h2 j hj⟩⟩
theorem Made.up (h : Made w ao cap L wx) (hb : Lo w0 w) : Made w0 ao cap L wx := by
 obtain ⟨g, h0, h1, h2⟩ := h.at_
 exact ⟨⟨g, h0, Nat.le_trans hb.size h1, h2⟩, h.cap_, h.len, h.num, hb.trans (h.below.mono hb.size)⟩
theorem Made.none_ (h : Made w ao cap L wx) : ao = none -> cap = 0 := fun e => by
 obtain ⟨g, h0, _⟩ := h.at_
 rw [e] at h0; cases h0
theorem Made.of_fill {g : Nat} (h : Fill w g L L.length wx) (hc : L.length <= cap) (hl : L.length <= 17592186044415) (hn : Rng L) : Made w (some ⟨g, 0, none⟩) cap L wx := by
 obtain ⟨cs, h1, h2⟩ := h.row
 exact ⟨⟨g, rfl, h.le, cs, h1, fun j hj => by rw [h2 j hj, if_pos hj]⟩, hc, hl, hn, h.below⟩
theorem Made.of_out {g : Nat} (h : Out w (.slice (some ⟨g, 0, none⟩) L.length cap) L wx) (hl : L.length <= 17592186044415) (hn : Rng L) : Made w (some ⟨g, 0, none⟩) cap L wx := by
 obtain ⟨_, h1 | ⟨g', cap', cur, h1, h2, h3, h4, h5, h6, h7⟩⟩ := h.own
 ·cases h1.1
 ·cases h1
  refine ⟨⟨g, rfl, h2, cur, h3, fun j hj => ?_⟩, h4, hl, hn, h.below⟩
  have e : (cur.toList.take (L.length * 1))[j]? = (intsC L)[j]? := by rw [h7]
  rw [List.getElem?_take, if_pos (by omega), Array.getElem?_toList] at e
  rw [e]
  unfold intsC
  rw [List.getElem?_map, List.getElem?_eq_getElem hj, List.getD_eq_getElem?_getD, List.getElem?_eq_getElem hj]
  rfl
end
def RetM (R : Option (List Int)) (w : World) (e : Ending) (w' : World) : Prop := match R with
 | none => e = .returned (.tuple #[.slice none 0 0, .int .i64 1]) /\ Lo w w'
 | some L => ∃ la lc, e = .returned (.tuple #[.slice la L.length lc, .int .i64 0]) /\ Made w la lc L w'
theorem retM_none {R : Option (List Int)} (h : R = none) {w w' : World} {e : Ending} (he : e = .returned (.tuple #[.slice none 0 0, .int .i64 1])) (hb : Lo w w') : RetM R w e w' := by
 subst h; exact ⟨he, hb⟩
theorem retM_some {R : Option (List Int)} {L : List Int} (h : R = some L) {w w' : World} {e : Ending} {la : OA} {lc : Nat} (he : e = .returned (.tuple #[.slice la L.length lc, .int .i64 0])) (hi : Made w la lc L w') : RetM R w e w' := by
 subst h; exact ⟨la, lc, he, hi⟩
theorem qleft_spec (C l : List Int) (ca la : OA) (cc lc sh b : Nat) (hsh : sh <= 31) (hCl : C.length <= l.length) (hlc : l.length <= lc) (w : World) (hL : Lin b C ca cc sh w) (hl : IntsAt w la l) :
  Calls Tryz.prog 204 #[linV b, .int .i64 (C.length : Int), .slice la l.length lc] w fun e w' => ∃ ga gc, e = .returned (.slice ga (leftN C sh l (l.length - C.length)).length gc) /\ Made w ga gc (leftN C sh l (l.length - C.length)) w' := by
 have h1 := hl.len
 have HL := kQ hl
 have HLI := kQ hL
 have hmk := make_ints (l.length - C.length) (by omega)
 have hsb : (l.length : Int) - (C.length : Int) = ((l.length - C.length : Nat) : Int) := by omega
 have HLL : Hid ((leftN C sh l (l.length - C.length)).length = l.length - C.length) := leftN_len _ _ _ _
 have HRG : Hid (Rng (leftN C sh l (l.length - C.length))) := leftN_rng _ _ _ _
 have HAT : Hid (∀ i, i < l.length - C.length -> (leftN C sh l (l.length - C.length)).getD i 0 = wrap64 (l.getD (i + C.length) 0 - foreN C sh l (i + C.length))) := fun i hi => by
  rw [leftN_at C sh l _ i hi, Nat.add_comm]
 have HM : Hid (∀ L : List Int, L.length = l.length - C.length -> Fill w w.heap.size L 0 (w.alloc (.cells (madeCells #[.int .i64 0] (l.length - C.length)) 3))) := fun L hLl => by
  have := Fill.made w w (Below.refl _ _) L
  rw [hLl] at this; exact this
 have KC : Hid (∀ i, i + C.length <= l.length -> ∀ b1 o1, la = some ⟨b1, o1, none⟩ -> ∀ pc wx, Lo w wx -> Calls Tryz.prog 227 (#[.slice (some ⟨b1, o1 + i, none⟩) C.length pc] ++ #[.pointer (some ⟨b, 0, none⟩), .pointer (some ⟨b + 1, 0, none⟩)]) wx fun e w' => e = .returned (.int .i64 (foreN C sh l (i + C.length))) /\ w' = wx) := fun i hi b1 o1 hla pc wx hbx => by
  have hpl : ((l.drop i).take C.length).length = C.length := by rw [List.length_take, List.length_drop]; omega
  have hpt := hl.part i C.length hi (some ⟨b1, o1 + i, none⟩) (fun b off e _ => by rw [hla] at e; cases e; rfl)
  have hh := qclos_spec C ((l.drop i).take C.length) ca (some ⟨b1, o1 + i, none⟩) cc pc sh b hsh (by rw [hpl]; exact Nat.le_refl _) wx (hL.below hbx) (hpt.below hbx)
  rw [hpl, foreN_part] at hh
  exact hh
 clear hl hL
 generalize leftN C sh l (l.length - C.length) = L at *
 generalize hn : l.length - C.length = n at *
 generalize hq : C.length = q at *
 have HNQ : Hid (n + q = l.length) := by show _ = _; omega
 clear hn hq hCl
 go_enter Tryz.func204, Tryz.ntmps204
 go_wp2_with fail
 generalize hwa : w.alloc _ = wa at *
 have HA := kQ (HM.out L HLL.out)
 clear hwa HM hmk
 go_loopw [8, 16] (fun s8 s16 wr => ∃ i : Nat, i <= n /\ s16 = .int .i64 (i : Int) /\ Fill w w.heap.size L i wr) (fun _ s16 _ => n - (intOf s16).toNat)
 case atStart => exact ⟨0, Nat.zero_le _, rfl, HA.out⟩
 case round =>
  clear HA
  obtain ⟨i, hi, rfl, hf⟩ := hrel
  have HA := kQ hf
  clear hf
  by_cases hlt : i < n
  ·obtain ⟨b1, o1, rfl, q1⟩ := HL.out.at (i + q) (by have := HNQ.out; omega)
   have HQ1 : Hid (∀ wx, Lo w wx -> wx.cell? ⟨b1, o1 + (i + q), none⟩ = some (.int .i64 (l.getD (i + q) 0))) := fun wx hh => q1 wx hh
   have HK : Hid (∀ pc wx, Lo w wx -> Calls Tryz.prog 227 (#[.slice (some ⟨b1, o1 + i, none⟩) q pc] ++ #[.pointer (some ⟨b, 0, none⟩), .pointer (some ⟨b + 1, 0, none⟩)]) wx fun e w' => e = .returned (.int .i64 (foreN C sh l (i + q))) /\ w' = wx) := fun pc wx hh => KC.out i (by have := HNQ.out; omega) b1 o1 rfl pc wx hh
   have hv0 := kQ ((HAT.out i hlt).symm)
   have HNX : Hid (Fill w w.heap.size L (i + 1) (wr.drew.setCell ⟨w.heap.size, i, none⟩ (.int .i64 (wrap64 (l.getD (i + q) 0 - foreN C sh l (i + q)))))) := by rw [hv0.out]; exact HA.out.drew.set (by rw [HLL.out]; exact hlt)
   have HD := kQ HA.out.drew
   have hpl : i + q < l.length := by have := HNQ.out; omega
   obtain ⟨p, hp⟩ : ∃ p : Nat, p = i + q := ⟨_, rfl⟩
   have hpi : (i : Int) + (q : Int) = (p : Int) := by omega
   have hpq : p - i = q := by omega
   rw [<- hp] at HQ1 HK HNX hpl q1
   have hip : i <= p := by omega
   have hpl2 : (p : Int) < (l.length : Int) := by omega
   have hpc2 : (p : Int) <= (lc : Int) := by omega
   have hip2 : (i : Int) <= (p : Int) := by omega
   have hpi3 : (p : Int) - (i : Int) = (q : Int) := by omega
   have hwp : IntKind.i64.wrap (p : Int) = (p : Int) := by rw [IntKind.wrap_i64]; omega
   have hne : ¬ lc = i := by omega
   have HPE := kQ hp
   clear hp
   have HCL : Hid (∀ wx, Hid (Fill w w.heap.size L i wx) -> (∃ v : Int, wx.cell? ⟨w.heap.size, i, none⟩ = some (.int .i64 v)) /\ wx.frozen? ⟨w.heap.size, i, none⟩ = false) := fun wx hh => ⟨⟨_, hh.out.cell i (by rw [HLL.out]; exact hlt)⟩, hh.out.frozen _⟩
   clear q1 HA hv0
   generalize l.getD p 0 = x at *
   generalize foreN C sh l p = fo at *
   go_wp2_with fail
   refine wp_region_held_drew (S := fun wx => Lo w wx) (by kernel_rfl) HD.out.below (fun hS => ?_)
   refine vQ 0 (.slice (some ⟨w.heap.size, 0, none⟩) n n) hS ?_
   simp only [SL]
   refine vQ 1 (.int .i64 (i : Int)) hS ?_
   simp only [SL]
   refine vQ 2 (.slice (some ⟨b1, o1, none⟩) l.length lc) hS ?_
   simp only [SL]
   refine vQ 3 (.int .i64 (i : Int)) hS ?_
   simp only [SL]
   refine vQ 4 (.int .i64 (q : Int)) hS ?_
   simp only [SL]
   refine vQ 5 (.int .i64 (p : Int)) hS ?_
   simp only [SL]
   refine vQ 6 (.pointer (some ⟨b1, o1 + p, none⟩)) hS ?_
   simp only [SL]
   refine uQ 7 (.int .i64 x) rfl hS (Or.inl ⟨by rfl, fun w hSw => by have r1 := HQ1.out w hSw; go_simp⟩) ?_
   simp only [SL]
   refine vQ 8 (linV b) hS ?_
   simp only [SL]
   refine vQ 9 (.slice (some ⟨b1, o1, none⟩) l.length lc) hS ?_
   simp only [SL]
   refine vQ 10 (.int .i64 (i : Int)) hS ?_
   simp only [SL]
   refine vQ 11 (.int .i64 (i : Int)) hS ?_
   simp only [SL]
   refine vQ 12 (.int .i64 (q : Int)) hS ?_
   simp only [SL]
   refine vQ 13 (.int .i64 (p : Int)) hS ?_
   simp only [SL]
   refine vQ 14 (.slice (some ⟨b1, o1 + i, none⟩) q (lc - i)) hS ?_
   simp only [SL]
   refine wpAnyH_ready (rs := [15]) (by kernel_rfl) (by simp) ?_
   refine AllReadyH.cons rfl (fun K hK => ?_) AllReadyH.nil
   go_simp
   refine (HK.out _ _ hS).mono ?_
   rintro e w5 ⟨rfl, hw5⟩
   subst hw5
   obtain ⟨⟨v5, y5⟩, z5⟩ := HCL.out _ HD
   refine hK.out _ _ hS (fun hS5 => ?_)
   clear hK K
   try simp only [SL]
   refine uQ 16 (.int .i64 (wrap64 (x - fo))) rfl hS5 (Or.inl ⟨by rfl, fun w hSw => by go_simp; exact wrap_is _⟩) ?_
   simp only [SL]
   refine vQ 17 (.pointer (some ⟨w.heap.size, i, none⟩)) hS5 ?_
   simp only [SL]
   refine wpAnyH_ready (rs := [18]) (by kernel_rfl) (by simp) ?_
   refine AllReadyH.cons rfl (fun K hK => ?_) AllReadyH.nil
   go_simp
   refine hK.out _ _ HNX.out.below (fun hS6 => ?_)
   clear hK K
   refine wpAnyH_done (by kernel_rfl) ?_ _
   go_wp2_with fail
   go_roundw
   case rel => exact ⟨i + 1, by omega, by go_num, HNX.out⟩
   case measure => simp [intOf]; omega
  ·have hin : i = n := by omega
   subst hin
   have HI : Hid (Made w (some ⟨w.heap.size, 0, none⟩) i L wr) := Made.of_fill (by rw [HLL.out]; exact HA.out) (by rw [HLL.out]; omega) (by rw [HLL.out]; omega) HRG.out
   clear HA
   go_wp2_with fail
   go_ret
   exact ⟨_, _, by rw [HLL.out]; rfl, HI.out⟩
theorem wpList_append_fits {P : Program} (w : World) {ops : Array Oper} {rest : List Oper} {o : Oper} {a : Act} {Q : Exit -> Act -> World -> Prop} (hgd : o.guard = none) (s x : Operand) (t : TypeId)
  (ho : o.op = .call { callee := .builtin .append, args := #[s, x], argTypes := #[t, t] })
  (base : Nat) (e : TypeId) (i : TypeInfo) (size : Nat) (ht : P.underlying t = some (.slice e)) (hi : P.info? e = some i) (hsize : i.size = size)
  (g n cap : Nat) (xs : List Value) (hs : a.eval s = .slice (some ⟨g, 0, none⟩) n cap) (hown : w.ownsRow base e size (.slice (some ⟨g, 0, none⟩) n cap) n xs)
  (ad : Addr) (m c : Nat) (news : List Value) (hx : a.eval x = .slice (some ad) m c) (hl : news.length = m * size) (hnews : ∀ j u, news[j]? = some u -> w.cell? (ad.add j) = some u) (h1 : ∀ u ∈ news, u.oneCell' = true)
  (hroom : n + m <= cap)
  (h : ∀ w', Hid (w'.ownsRow base e size (.slice (some ⟨g, 0, none⟩) (n + m) cap) (n + m) (xs ++ news)) -> Hid (w.grownBy w' (some g)) -> wpList P ops Q rest (a.put o.dst (.slice (some ⟨g, 0, none⟩) (n + m) cap)) w') : wpList P ops Q (o :: rest) a w := by
 refine wpList_plain hgd fun K hK => ?_
 obtain ⟨w', hrun, r1, r2⟩ := run_append_fits (P := P) w base t o.type e i size ht hi hsize g n cap xs hown ad m c news hl hnews h1 hroom
 unfold Oper.wp
 simp [execOp, ho, resolve, invoke, builtin, hs, hx, hrun, Result.andThen]
 exact hK _ _ (h w' r1 r2)
theorem make_room (m n : Nat) (hn : m + n <= 17592186044415) (w : World) : (Instr.makeSlice 56 (.int .i64 (m : Int)) (.int .i64 ((m + n : Nat) : Int))).run Tryz.prog w = .ok (.slice (some ⟨w.heap.size, 0, none⟩) m (m + n)) (w.alloc (.cells (madeCells #[.int .i64 0] (m + n)) 3)) := by
 obtain ⟨i, h1, h2, h3, h4⟩ := int_info
 have hh := run_make (P := Tryz.prog) w 56 3 i _ undI3 h1 h2 .i64 .i64 (m : Int) ((m + n : Nat) : Int) (by omega) (by omega) (by rw [h4]; omega) (by omega)
 rw [h3] at hh
 generalize m + n = c at *
 simpa [Value.cells] using hh
theorem made_copy (warm : List Int) (n : Nat) (wa : OA) (wc : Nat) (hn : warm.length + n <= 17592186044415) (w : World) (hw : IntsAt w wa warm) :
  ∃ w', (Builtin.copy_ #[56, 56] 3 #[.slice (some ⟨w.heap.size, 0, none⟩) warm.length (warm.length + n), .slice wa warm.length wc]).run Tryz.prog (w.alloc (.cells (madeCells #[.int .i64 0] (warm.length + n)) 3)) = .ok (goInt warm.length) w' /\ Out w (.slice (some ⟨w.heap.size, 0, none⟩) warm.length (warm.length + n)) warm w' := by
 have hs : (Tryz.prog.info? 3).map (·.size) = some 1 := by kernel_rfl
 have hmin : Nat.min warm.length warm.length = warm.length := Nat.min_self _
 have hB : Lo w (w.alloc (.cells (madeCells #[.int .i64 0] (warm.length + n)) 3)) := aQ
 have hW := hw.below hB
 have hg := heap_alloc_new w (.cells (madeCells #[.int .i64 0] (warm.length + n)) 3)
 have hsz : (madeCells #[.int .i64 0] (warm.length + n)).size = warm.length + n := size_madeCells _ _
 generalize madeCells #[.int .i64 0] (warm.length + n) = cur at *
 generalize w.alloc (.cells cur 3) = w1 at *
 by_cases h0 : warm.length = 0
 ·have hnil : warm = [] := List.eq_nil_of_length_eq_zero h0
  subst hnil
  refine ⟨w1, run_copy_none w1 56 56 3 3 _ _ 0 _ 0 wc undI3 hs rfl, ⟨⟨rfl, .inr ⟨w.heap.size, _, cur, rfl, Nat.le_refl _, hg, Nat.zero_le _, by unfold maxLen; omega, by rw [hsz]; omega, by simp [intsC]⟩⟩, hB⟩⟩
 ·obtain ⟨b, off, rfl⟩ := hW.addr (by omega)
  have hrun := run_copy_row (P := Tryz.prog) w1 56 56 3 3 w.heap.size 0 warm.length (warm.length + n) ⟨b, off, none⟩ warm.length wc cur 3 (intsC warm) undI3 hs hg (by rw [intsC_length, hmin]) (hW.news _ rfl) (by rw [intsC_length, hsz]; omega) (intsC_one warm)
  rw [intsC_length] at hrun
  refine ⟨_, hrun, ⟨⟨by rw [intsC_length]; omega, .inr ⟨w.heap.size, _, _, rfl, Nat.le_refl _, setRow_heap w1 w.heap.size cur _ 3 (0, 0) hg, by omega, by unfold maxLen; omega, ?_, ?_⟩⟩, ?_⟩⟩
  ·simp [intsC_length, hsz]
  ·have e : warm.length * 1 = (intsC warm).length := by rw [intsC_length]; omega
   rw [e]
   simp
  ·exact ⟨hB.os, hB.tape, hB.output, by rw [size_setRow]; exact hB.size, fun k hk => by rw [setRow_other _ _ _ _ (by omega)]; exact hB.block k hk⟩
theorem qfore_spec (C warm l : List Int) (ca wa la : OA) (cc wc lc sh b : Nat) (hsh : sh <= 31) (hCw : C.length = warm.length) (hw32 : warm.length <= 32) (hl9 : l.length <= 17592186043904) (w : World) (hL : Lin b C ca cc sh w) (hw : IntsAt w wa warm) (hl : IntsAt w la l) :
  Calls Tryz.prog 234 #[linV b, .slice wa warm.length wc, .slice la l.length lc] w fun e w' => ∃ ga gc, e = .returned (.slice ga (wholeN C sh warm l l.length).length gc) /\ Made w ga gc (wholeN C sh warm l l.length) w' := by
 obtain ⟨i3, h3a, h3b, h3c, h3d⟩ := int_info
 have hmk := make_room warm.length l.length (by omega)
 obtain ⟨w2, hcp, hout⟩ := made_copy warm l.length wa wc (by omega) w hw
 have HO0 := kQ hout
 have HL := kQ hl
 have HLI := kQ hL
 have HRG : Hid (∀ n, Rng (wholeN C sh warm l n)) := fun n => wholeN_rng C sh warm l hw.num n
 have HLN : Hid (∀ n, (wholeN C sh warm l n).length = warm.length + n) := fun n => wholeN_len C sh warm l n
 have HCQ := kQ hCw
 have hgi : goInt warm.length = .int .i64 (warm.length : Int) := rfl
 have hsum : (warm.length : Int) + (l.length : Int) = ((warm.length + l.length : Nat) : Int) := by omega
 have HSTEP : Hid (∀ i, wholeN C sh warm l (i + 1) = wholeN C sh warm l i ++ [wrap64 (l.getD i 0 + foreN C sh (wholeN C sh warm l i) (warm.length + i))]) := fun i => rfl
 have KC : Hid (∀ (i : Nat) (xs : List Int) g pc wx, xs.length = warm.length + i -> Lo w wx -> IntsAt wx (some ⟨g, 0, none⟩) xs -> Calls Tryz.prog 227 (#[.slice (some ⟨g, i, none⟩) warm.length pc] ++ #[.pointer (some ⟨b, 0, none⟩), .pointer (some ⟨b + 1, 0, none⟩)]) wx fun e w' => e = .returned (.int .i64 (foreN C sh xs (warm.length + i))) /\ w' = wx) := fun i xs g pc wx hxl hbx hx => by
  have hpl : ((xs.drop i).take C.length).length = C.length := by rw [List.length_take, List.length_drop]; omega
  have hpt := hx.part i C.length (by omega) (some ⟨g, i, none⟩) (fun b off e _ => by cases e; rw [Nat.zero_add])
  have hh := qclos_spec C ((xs.drop i).take C.length) ca (some ⟨g, i, none⟩) cc pc sh b hsh (by rw [hpl]; exact Nat.le_refl _) wx (hL.below hbx) hpt
  rw [hpl, foreN_part, hCw, Nat.add_comm i] at hh
  exact hh
 clear hl hL hw hout hCw
 generalize hm : warm.length = m at *
 generalize hn : l.length = n at *
 generalize hc : m + n = c at *
 go_enter Tryz.func234, Tryz.ntmps234
 go_wp2_with fail
 clear hmk hcp hgi
 go_loopw [7, 8, 9, 23] (fun s7 s8 s9 t wr => ∃ i : Nat, i <= n /\ t = .int .i64 (i : Int) /\ s7 = .slice (some ⟨w.heap.size, 0, none⟩) (m + i) c /\ Out w (.slice (some ⟨w.heap.size, 0, none⟩) (m + i) c) (wholeN C sh warm l i) wr) (fun _ _ _ t _ => n - (intOf t).toNat)
 case atStart => exact ⟨0, Nat.zero_le _, rfl, rfl, HO0.out⟩
 case round =>
  clear HO0
  obtain ⟨i, hi, rfl, rfl, hout⟩ := hrel
  by_cases hlt : i < n
  ·obtain ⟨b1, o1, rfl, q1⟩ := HL.out.at i (by rw [hn]; exact hlt)
   have r1 := q1 wr hout.below
   have HN := HSTEP.out i
   have hxl := HLN.out i
   have hxr := HRG.out i
   have HN2 : Hid (wholeN C sh warm l (i + 1) = wholeN C sh warm l i ++ [wrap64 (l.getD i 0 + foreN C sh (wholeN C sh warm l i) (m + i))]) := HN
   have hI : IntsAt wr (some ⟨w.heap.size, 0, none⟩) (wholeN C sh warm l i) := own_ints (cap := c) (by rw [hxl]; have := hout.own; rw [hxl] at this; exact this) (by omega) hxr
   have HK : Hid (∀ pc, Calls Tryz.prog 227 (#[.slice (some ⟨w.heap.size, i, none⟩) m pc] ++ #[.pointer (some ⟨b, 0, none⟩), .pointer (some ⟨b + 1, 0, none⟩)]) wr fun e w' => e = .returned (.int .i64 (foreN C sh (wholeN C sh warm l i) (m + i))) /\ w' = wr) := fun pc => KC.out i _ w.heap.size pc wr hxl hout.below hI
   have HO := kQ hout
   have HXL := kQ hxl
   clear q1 hI hxr hxl HN hout
   generalize wholeN C sh warm l i = xs at *
   generalize l.getD i 0 = x at *
   obtain ⟨p, hp⟩ : ∃ p : Nat, p = m + i := ⟨_, rfl⟩
   rw [<- hp] at HK HO HXL HN2 ⊢
   have hpm : p - i = m := by omega
   have hpc : p + 1 <= c := by omega
   have hip : i <= p := by omega
   have hne : ¬ c = i := by omega
   have hip2 : (i : Int) <= (p : Int) := by omega
   have hpi3 : (p : Int) - (i : Int) = (m : Int) := by omega
   have hpc2 : (p : Int) <= (c : Int) := by omega
   have HPE := kQ hp
   clear hp
   generalize foreN C sh xs p = fo at *
   go_wp2_with fail
   refine (HK.out _).mono ?_
   rintro e w3 ⟨rfl, hw3⟩
   subst hw3
   have HOA : Hid (Out w (.slice (some ⟨w.heap.size, 0, none⟩) p c) xs (w3.alloc (.cells #[.int .i64 (wrap64 (x + fo))] 3))) := HO.out.alloc _
   have HOW : Hid ((w3.alloc (.cells #[.int .i64 (wrap64 (x + fo))] 3)).ownsRow w.heap.size 3 1 (.slice (some ⟨w.heap.size, 0, none⟩) p c) p (intsC xs)) := by
    have := HOA.out.own
    rw [HXL.out] at this
    exact this
   clear HK KC
   go_wp2_with (at_builtin; refine wpList_append_fits _ rfl (.tmp 28) (.tmp 36) 56 rfl w.heap.size 3 i3 1 undI3 h3a h3c w.heap.size p c (intsC xs) rfl HOW.out ⟨w3.heap.size, 0, none⟩ 1 1 [.int .i64 (wrap64 (x + fo))] rfl rfl (World.news_of_block (cs := #[.int .i64 (wrap64 (x + fo))]) (t := 3) (fr := (0, 0)) (tmp_new w3 _)) (one_int _ _) hpc ?_; intro w6 ho6 hg6)
   have HPN : Hid (Out w (.slice (some ⟨w.heap.size, 0, none⟩) (p + 1) c) (xs ++ [wrap64 (x + fo)]) w6) := by
    have h7 := HOA.out.push (g := w.heap.size) (cap := c) (w1 := w6) (p := wrap64 (x + fo)) (by rw [HXL.out]; exact ho6.out) hg6.out
    rw [HXL.out] at h7
    exact h7
   clear ho6 hg6 HOA HOW HO
   go_roundw
   case rel => exact ⟨i + 1, by omega, by go_num, by rw [HPE.out]; rfl, by rw [HN2.out, <- Nat.add_assoc, <- HPE.out]; exact HPN.out⟩
   case measure => simp [intOf]; omega
  ·have hin : i = n := by omega
   subst hin
   have hxl := HLN.out i
   have HI : Hid (Made w (some ⟨w.heap.size, 0, none⟩) c (wholeN C sh warm l i) wr) := Made.of_out (by rw [hxl]; exact hout) (by omega) (HRG.out i)
   have HXL := kQ hxl
   clear hout hxl
   go_wp2_with fail
   go_ret
   exact ⟨_, _, by rw [HXL.out]; rfl, HI.out⟩
end Go.Proofs.YtfpfabmbipmipaaGreatDoor
