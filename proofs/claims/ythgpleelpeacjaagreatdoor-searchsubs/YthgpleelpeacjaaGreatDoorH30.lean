/- Own text. -/
import Derived.Test.YthgpleelpeacjaaGreatDoorH29
set_option linter.unusedSimpArgs false
set_option linter.unusedVariables false
set_option maxRecDepth 20000
set_option maxHeartbeats 12800000
namespace Go.Proofs.YthgpleelpeacjaaGreatDoor
open Go.RowKit
theorem z_pred2 (lv : Int) (hlv : lv = 2) (w : World) : Calls Tryz.prog 142 #[.int .i64 lv] w fun e w' => ∃ so cap L, e = .returned (.slice so L.length cap) ∧ TS w (.slice so L.length cap) L w' ∧ L.map (·.q) = trL lv 0 ∧ CapK L := by
 obtain ⟨iS, hSa, hSb, hSc, hSd⟩ := sub_info12
 have km := z_maxFixed lv
 subst hlv
 rw [if_neg (by decide)] at km
 go_enter Tryz.func142, Tryz.ntmps142
 go_wp2_with fail
 refine (km _).mono ?_
 rintro e w2 ⟨rfl, hw2⟩
 subst hw2
 clear km
 go_wp2_with fail
 go_loopw [3, 4, 8] (fun s3 s4 s8 wr => ∃ (j : Nat) (v : Value) (L : List El), j ≤ 5 ∧ s8 = .int .i64 (j : Int) ∧ s3 = v ∧ L.map (·.q) = (List.range j).map (fxS 0) ∧ CapK L ∧ TS w2 v L wr) (fun _ _ s8 _ => 5 - (intOf s8).toNat)
 case atStart => exact ⟨0, _, [], by omega, rfl, rfl, rfl, fun e he => absurd he (by simp), TS.nil w2⟩
 case round =>
  obtain ⟨j, v, L, hj, rfl, rfl, hmap, hcap, hts⟩ := hrel
  have HMP : Hid (L.map (·.q) = (List.range j).map (fxS 0)) := hmap
  have HCK : Hid (CapK L) := hcap
  obtain ⟨oa, oc, rfl⟩ := hts.shape
  have HTS : Hid (TS w2 (.slice oa L.length oc) L wr) := hts
  have hLl : L.length = j := by have := congrArg List.length hmap; simpa using this
  clear hts hmap hcap
  by_cases hlt : j < 5
  ·have hL5 : L.length ≤ 10 := by omega
   have HLL : Hid (L.length = j) := hLl
   clear hLl
   go_wp2_with (at_builtin; refine wpList_append_lies _ rfl (.tmp 11) (.tmp 14) 39 rfl w2.heap.size 27 iS (.agg (subC ⟨0, 0, 0, 0, 0, [], R00⟩ none 0 none 0 none 0)) 10 128 undSubs12 hSa hSb hSc hSd rfl (by decide) (.slice oa L.length oc) L.length (rowC L) rfl (HTS.out.low ((Below.refl _ _).alloc (Nat.le_refl _) _)).own ⟨wr.heap.size, 0, none⟩ 1 1 ((subC (fxS 0 j) none 0 none 0 none 0)).toList rfl rfl (World.news_of_block (cs := (subC (fxS 0 j) none 0 none 0 none 0)) (t := 27) (fr := (0, 0)) (heap_alloc_new _ _)) (by intro u hu; simp at hu; rcases hu with h | h | h | h | h | h | h | h | h | h <;> (rw [h]; rfl)) (by decide) (by unfold maxLen; omega) (by omega) (HTS.out.low ((Below.refl _ _).alloc (Nat.le_refl _) _)).below.size _ rfl ?_; intro gA cA wA ownA groA hatA hltA)
   have HPA : Hid (TS w2 (.slice (some ⟨gA, 0, none⟩) (L.length + 1) cA) (L ++ [⟨fxS 0 j, none, 0⟩]) wA) := (HTS.out.low ((Below.refl _ _).alloc (Nat.le_refl _) _)).push (M := [⟨fxS 0 j, none, 0⟩]) (by rw [rowC_one]; exact ownA) groA hatA (fun e he => by
    rw [List.mem_singleton] at he; subst he; exact ⟨IntsAt.nil _, fun h0 => absurd h0 (Nat.lt_irrefl 0)⟩)
   have HM2 : Hid ((L ++ [(⟨fxS 0 j, none, 0⟩ : El)]).map (·.q) = (List.range (j + 1)).map (fxS 0)) := by
    show _ = _
    rw [List.map_append, HMP.out, List.range_succ, List.map_append]; rfl
   have HC2 : Hid (CapK (L ++ [(⟨fxS 0 j, none, 0⟩ : El)])) := HCK.out.app (CapK.one _ _ _ (Nat.le_refl _) (fun _ => rfl))
   clear ownA groA hatA hltA
   go_wp2_with fail
   go_roundw
   case rel => exact ⟨j + 1, _, _, by omega, by go_num, rfl, HM2.out, HC2.out, HPA.out⟩
   case measure => simp [intOf]; omega
  ·have hjK : j = 5 := by omega
   have HJK : Hid (j = 5) := hjK
   clear hjK
   have hL5 : L.length ≤ 10 := by have := HJK.out; omega
   have HLL : Hid (L.length = j) := hLl
   clear hLl
   have HT0a : Hid (TS w2 (.slice oa L.length oc) L (wr.alloc (.cells #[.int .i64 31] 3))) := HTS.out.low ((Below.refl _ _).alloc (Nat.le_refl _) _)
   have HI0 : Hid (IntsAt (wr.alloc (.cells #[.int .i64 31] 3)) (some ⟨wr.heap.size, 0, none⟩) [31]) := ints_new wr [31] (by decide) (by decide)
   have HS0 : Hid (∀ k, Value.ownBlock (.slice oa L.length oc) = some k → k < wr.heap.size) := fun k e => (HTS.out.own.lt k e).2
   have HQ0 : Hid (w2.heap.size ≤ wr.heap.size) := HTS.out.below.size
   clear HTS
   go_wp2_with fail
   have HZ0 : Hid (w2.heap.size ≤ wr.heap.size) := HQ0.out
   generalize hwn0 : World.alloc _ _ = wn0 at *
   generalize hgb0 : wr.heap.size = b0 at *
   clear hwn0 hgb0
   refine (z_lpc [31] (some ⟨b0, 0, none⟩) 1 wn0).mono ?_
   rintro e wc0 ⟨rfl, hbc⟩
   have HT0 : Hid (TS w2 (.slice oa L.length oc) L wc0) := HT0a.out.low hbc
   have HJ0 : Hid (IntsAt wc0 (some ⟨b0, 0, none⟩) [31]) := HI0.out.below hbc
   clear hbc HT0a HI0
   have HI0 := HJ0
   clear HJ0
   have HT1a : Hid (TS w2 (.slice oa L.length oc) L (wc0.alloc (.cells #[.int .i64 60, .int .i64 (-29)] 3))) := HT0.out.low ((Below.refl _ _).alloc (Nat.le_refl _) _)
   have HI1 : Hid (IntsAt (wc0.alloc (.cells #[.int .i64 60, .int .i64 (-29)] 3)) (some ⟨wc0.heap.size, 0, none⟩) [60, -29]) := ints_new wc0 [60, -29] (by decide) (by decide)
   have HI0_1 : Hid (IntsAt (wc0.alloc (.cells #[.int .i64 60, .int .i64 (-29)] 3)) (some ⟨b0, 0, none⟩) [31]) := HI0.out.below ((Below.refl _ _).alloc (Nat.le_refl _) _)
   have HS1 : Hid (∀ k, Value.ownBlock (.slice oa L.length oc) = some k → k < wc0.heap.size) := fun k e => (HT0.out.own.lt k e).2
   have HQ1 : Hid (w2.heap.size ≤ wc0.heap.size) := HT0.out.below.size
   clear HT0
   go_wp2_with fail
   have HZ1 : Hid (w2.heap.size ≤ wc0.heap.size) := HQ1.out
   generalize hwn1 : World.alloc _ _ = wn1 at *
   generalize hgb1 : wc0.heap.size = b1 at *
   clear hwn1 hgb1
   refine (z_lpc [60, -29] (some ⟨b1, 0, none⟩) 2 wn1).mono ?_
   rintro e wc1 ⟨rfl, hbc⟩
   have HT1 : Hid (TS w2 (.slice oa L.length oc) L wc1) := HT1a.out.low hbc
   have HJ1 : Hid (IntsAt wc1 (some ⟨b1, 0, none⟩) [60, -29]) := HI1.out.below hbc
   have HJ0 : Hid (IntsAt wc1 (some ⟨b0, 0, none⟩) [31]) := HI0_1.out.below hbc
   clear hbc HT1a HI1 HI0_1 HI0
   have HI0 := HJ0
   clear HJ0
   have HI1 := HJ1
   clear HJ1
   have HT2a : Hid (TS w2 (.slice oa L.length oc) L (wc1.alloc (.cells #[.int .i64 63, .int .i64 (-31)] 3))) := HT1.out.low ((Below.refl _ _).alloc (Nat.le_refl _) _)
   have HI2 : Hid (IntsAt (wc1.alloc (.cells #[.int .i64 63, .int .i64 (-31)] 3)) (some ⟨wc1.heap.size, 0, none⟩) [63, -31]) := ints_new wc1 [63, -31] (by decide) (by decide)
   have HI0_2 : Hid (IntsAt (wc1.alloc (.cells #[.int .i64 63, .int .i64 (-31)] 3)) (some ⟨b0, 0, none⟩) [31]) := HI0.out.below ((Below.refl _ _).alloc (Nat.le_refl _) _)
   have HI1_2 : Hid (IntsAt (wc1.alloc (.cells #[.int .i64 63, .int .i64 (-31)] 3)) (some ⟨b1, 0, none⟩) [60, -29]) := HI1.out.below ((Below.refl _ _).alloc (Nat.le_refl _) _)
   have HS2 : Hid (∀ k, Value.ownBlock (.slice oa L.length oc) = some k → k < wc1.heap.size) := fun k e => (HT1.out.own.lt k e).2
   have HQ2 : Hid (w2.heap.size ≤ wc1.heap.size) := HT1.out.below.size
   clear HT1
   go_wp2_with fail
   have HZ2 : Hid (w2.heap.size ≤ wc1.heap.size) := HQ2.out
   generalize hwn2 : World.alloc _ _ = wn2 at *
   generalize hgb2 : wc1.heap.size = b2 at *
   clear hwn2 hgb2
   refine (z_lpc [63, -31] (some ⟨b2, 0, none⟩) 2 wn2).mono ?_
   rintro e wc2 ⟨rfl, hbc⟩
   have HT2 : Hid (TS w2 (.slice oa L.length oc) L wc2) := HT2a.out.low hbc
   have HJ2 : Hid (IntsAt wc2 (some ⟨b2, 0, none⟩) [63, -31]) := HI2.out.below hbc
   have HJ0 : Hid (IntsAt wc2 (some ⟨b0, 0, none⟩) [31]) := HI0_2.out.below hbc
   have HJ1 : Hid (IntsAt wc2 (some ⟨b1, 0, none⟩) [60, -29]) := HI1_2.out.below hbc
   clear hbc HT2a HI2 HI0_2 HI0 HI1_2 HI1
   have HI0 := HJ0
   clear HJ0
   have HI1 := HJ1
   clear HJ1
   have HI2 := HJ2
   clear HJ2
   have HTa : Hid (TS w2 (.slice oa L.length oc) L (wc2.alloc (.cells (rowC [⟨lpS 0 [31], some ⟨b0, 0, none⟩, 1⟩, ⟨lpS 0 [60, -29], some ⟨b1, 0, none⟩, 2⟩, ⟨lpS 0 [63, -31], some ⟨b2, 0, none⟩, 2⟩]).toArray 27))) := HT2.out.low ((Below.refl _ _).alloc (Nat.le_refl _) _)
   have HK0 : Hid (IntsAt (wc2.alloc (.cells (rowC [⟨lpS 0 [31], some ⟨b0, 0, none⟩, 1⟩, ⟨lpS 0 [60, -29], some ⟨b1, 0, none⟩, 2⟩, ⟨lpS 0 [63, -31], some ⟨b2, 0, none⟩, 2⟩]).toArray 27)) (some ⟨b0, 0, none⟩) [31]) := HI0.out.below ((Below.refl _ _).alloc (Nat.le_refl _) _)
   have HK1 : Hid (IntsAt (wc2.alloc (.cells (rowC [⟨lpS 0 [31], some ⟨b0, 0, none⟩, 1⟩, ⟨lpS 0 [60, -29], some ⟨b1, 0, none⟩, 2⟩, ⟨lpS 0 [63, -31], some ⟨b2, 0, none⟩, 2⟩]).toArray 27)) (some ⟨b1, 0, none⟩) [60, -29]) := HI1.out.below ((Below.refl _ _).alloc (Nat.le_refl _) _)
   have HK2 : Hid (IntsAt (wc2.alloc (.cells (rowC [⟨lpS 0 [31], some ⟨b0, 0, none⟩, 1⟩, ⟨lpS 0 [60, -29], some ⟨b1, 0, none⟩, 2⟩, ⟨lpS 0 [63, -31], some ⟨b2, 0, none⟩, 2⟩]).toArray 27)) (some ⟨b2, 0, none⟩) [63, -31]) := HI2.out.below ((Below.refl _ _).alloc (Nat.le_refl _) _)
   go_wp2_with (at_builtin; refine wpList_append_lies _ rfl (.tmp 19) (.tmp 26) 39 rfl w2.heap.size 27 iS (.agg (subC ⟨0, 0, 0, 0, 0, [], R00⟩ none 0 none 0 none 0)) 10 128 undSubs12 hSa hSb hSc hSd rfl (by decide) (.slice oa L.length oc) L.length (rowC L) rfl HTa.out.own ⟨wc2.heap.size, 0, none⟩ 3 3 (rowC [⟨lpS 0 [31], some ⟨b0, 0, none⟩, 1⟩, ⟨lpS 0 [60, -29], some ⟨b1, 0, none⟩, 2⟩, ⟨lpS 0 [63, -31], some ⟨b2, 0, none⟩, 2⟩]) rfl rfl (World.news_of_block (cs := (rowC [⟨lpS 0 [31], some ⟨b0, 0, none⟩, 1⟩, ⟨lpS 0 [60, -29], some ⟨b1, 0, none⟩, 2⟩, ⟨lpS 0 [63, -31], some ⟨b2, 0, none⟩, 2⟩]).toArray) (t := 27) (fr := (0, 0)) (heap_alloc_new _ _)) (rowC_one' _) (by decide) (by unfold maxLen; omega) (by omega) HTa.out.below.size _ rfl ?_; intro gA cA wA ownA groA hatA hltA)
   have HPA : Hid (TS w2 (.slice (some ⟨gA, 0, none⟩) (L.length + 3) cA) (L ++ [⟨lpS 0 [31], some ⟨b0, 0, none⟩, 1⟩, ⟨lpS 0 [60, -29], some ⟨b1, 0, none⟩, 2⟩, ⟨lpS 0 [63, -31], some ⟨b2, 0, none⟩, 2⟩]) wA) := HTa.out.push (M := [⟨lpS 0 [31], some ⟨b0, 0, none⟩, 1⟩, ⟨lpS 0 [60, -29], some ⟨b1, 0, none⟩, 2⟩, ⟨lpS 0 [63, -31], some ⟨b2, 0, none⟩, 2⟩]) ownA groA hatA (fun e he => by
    have hb : ∀ (q : Sb) (bb cc : Nat), IntsAt (wc2.alloc (.cells (rowC [⟨lpS 0 [31], some ⟨b0, 0, none⟩, 1⟩, ⟨lpS 0 [60, -29], some ⟨b1, 0, none⟩, 2⟩, ⟨lpS 0 [63, -31], some ⟨b2, 0, none⟩, 2⟩]).toArray 27)) (some ⟨bb, 0, none⟩) q.C → (∀ k, Value.ownBlock (.slice oa L.length oc) = some k → k < bb) → w2.heap.size ≤ bb → IntsAt (wc2.alloc (.cells (rowC [⟨lpS 0 [31], some ⟨b0, 0, none⟩, 1⟩, ⟨lpS 0 [60, -29], some ⟨b1, 0, none⟩, 2⟩, ⟨lpS 0 [63, -31], some ⟨b2, 0, none⟩, 2⟩]).toArray 27)) (some ⟨bb, 0, none⟩) q.C ∧ (0 < q.C.length → ∀ b, blockOf (some ⟨bb, 0, none⟩) = some b → w2.heap.size ≤ b ∧ Value.ownBlock (.slice oa L.length oc) ≠ some b) := fun q bb cc h1 h2 h3 => ⟨h1, fun _ b hb => by
     have e : bb = b := by simpa [blockOf] using hb
     subst e
     exact ⟨h3, fun e => by have := h2 bb e; omega⟩⟩
    rcases List.mem_cons.1 he with rfl | he
    ·exact hb _ _ 1 HK0.out HS0.out HZ0.out
    rcases List.mem_cons.1 he with rfl | he
    ·exact hb _ _ 2 HK1.out HS1.out HZ1.out
    rcases List.mem_cons.1 he with rfl | he
    ·exact hb _ _ 2 HK2.out HS2.out HZ2.out
    cases he)
   have HM2 : Hid ((L ++ ([⟨lpS 0 [31], some ⟨b0, 0, none⟩, 1⟩, ⟨lpS 0 [60, -29], some ⟨b1, 0, none⟩, 2⟩, ⟨lpS 0 [63, -31], some ⟨b2, 0, none⟩, 2⟩] : List El)).map (·.q) = trL 2 0) := by
    show _ = _
    rw [List.map_append, HMP.out, HJK.out]; rfl
   have HC2 : Hid (CapK (L ++ [⟨lpS 0 [31], some ⟨b0, 0, none⟩, 1⟩, ⟨lpS 0 [60, -29], some ⟨b1, 0, none⟩, 2⟩, ⟨lpS 0 [63, -31], some ⟨b2, 0, none⟩, 2⟩])) := HCK.out.app (fun e he => by
    rcases List.mem_cons.1 he with rfl | he
    ·exact ⟨Nat.le_refl _, fun e => by cases e⟩
    rcases List.mem_cons.1 he with rfl | he
    ·exact ⟨Nat.le_refl _, fun e => by cases e⟩
    rcases List.mem_cons.1 he with rfl | he
    ·exact ⟨Nat.le_refl _, fun e => by cases e⟩
    cases he)
   clear ownA groA hatA hltA
   go_wp2_with fail
   go_ret
   exact ⟨some ⟨gA, 0, none⟩, cA, L ++ [⟨lpS 0 [31], some ⟨b0, 0, none⟩, 1⟩, ⟨lpS 0 [60, -29], some ⟨b1, 0, none⟩, 2⟩, ⟨lpS 0 [63, -31], some ⟨b2, 0, none⟩, 2⟩], by rw [List.length_append]; rfl, by rw [List.length_append]; exact HPA.out, HM2.out, HC2.out⟩
structure PT (v : Value) (gT : Nat) (blk : Obj) (LT : List El) (X : World) : Prop where
 row : X.heap[gT]? = some blk
 off : Off v X gT
 ints : ∀ e ∈ LT, IOff v X e.ca e.q.C
section
variable {v : Value} {gT : Nat} {blk : Obj} {LT : List El} {X X' w1 : World} {g n c : Nat}
theorem PT.low (h : PT v gT blk LT X) (hb : Below X.heap.size X X') : PT v gT blk LT X' := ⟨by rw [hb.block _ (lt_of_block h.row)]; exact h.row, h.off.low hb, fun e he => (h.ints e he).low hb⟩
theorem PT.push (h : PT v gT blk LT X) (hg : X.grownBy w1 v.ownBlock) (hat : v.ownBlock = some g ∨ g = X.heap.size) : PT (.slice (some ⟨g, 0, none⟩) n c) gT blk LT w1 :=
 ⟨by rw [(h.off.push (n := n) (c := c) hg hat).2]; exact h.row, (h.off.push hg hat).1, fun e he => (h.ints e he).push hg hat⟩
end
theorem PT.new {w X : World} {vT v : Value} {LT : List El} {gT cap : Nat} (h : TS w vT LT X) (e : vT = .slice (some ⟨gT, 0, none⟩) LT.length cap) (hv : ∀ k, v.ownBlock = some k → k < w.heap.size) (h0 : 0 < LT.length) :
  ∃ cs : Array Value, PT v gT (.cells cs 27 (0, 0)) LT X ∧ ∀ i, i < LT.length * 10 → cs[i]? = (rowC LT)[i]? := by
 subst e
 rcases h.own.2 with ⟨hv2, hn⟩ | ⟨g', cap', cur, hv2, hge, hg, hle, _, _, ht⟩
 ·cases hv2
 ·cases hv2
  refine ⟨cur, ⟨hg, ⟨lt_of_block hg, fun e => by have := hv _ e; omega⟩, fun e he => (h.ints e he).off hv (fun h0 b hb => (h.apart e he h0 b hb).1)⟩, fun i hi => ?_⟩
  rw [← ht, List.getElem?_take_of_lt hi, Array.getElem?_toList]
theorem row_sub {X : World} {gT : Nat} {cs : Array Value} {LT : List El} (h : X.heap[gT]? = some (.cells cs 27 (0, 0))) (hc : ∀ i, i < LT.length * 10 → cs[i]? = (rowC LT)[i]?) (j : Nat) (e : El) (hj : LT[j]? = some e) (i : Nat) (hi : i < 10) : X.cell? ⟨gT, j * 10 + i, none⟩ = (elC e)[i]? := by
 have hjl : j < LT.length := by
  rcases Nat.lt_or_ge j LT.length with h1 | h1
  ·exact h1
  ·rw [List.getElem?_eq_none h1] at hj; cases hj
 rw [cell_of_row _ _ _ _ _ _ h, hc _ (by omega)]
 exact rowC_get LT j i e hj hi
theorem row_cells {X : World} {gT : Nat} {cs : Array Value} {LT : List El} (h : X.heap[gT]? = some (.cells cs 27 (0, 0))) (hc : ∀ i, i < LT.length * 10 → cs[i]? = (rowC LT)[i]?) (j : Nat) (e : El) (hj : LT[j]? = some e) :
  X.cell? ⟨gT, j * 10, none⟩ = some (.int .i64 e.q.k) ∧ X.cell? ⟨gT, j * 10 + 1, none⟩ = some (.int .i64 e.q.o) ∧ X.cell? ⟨gT, j * 10 + 2, none⟩ = some (.int .i64 e.q.w) ∧ X.cell? ⟨gT, j * 10 + 3, none⟩ = some (.int .i64 e.q.p) ∧ X.cell? ⟨gT, j * 10 + 4, none⟩ = some (.int .i64 e.q.h) ∧ X.cell? ⟨gT, j * 10 + 5, none⟩ = some (.slice e.ca e.q.C.length e.cc) ∧ X.cell? ⟨gT, j * 10 + 6, none⟩ = some (.int .i64 e.q.R.m) ∧ X.cell? ⟨gT, j * 10 + 7, none⟩ = some (.int .i64 e.q.R.o) ∧ X.cell? ⟨gT, j * 10 + 8, none⟩ = some (.slice none e.q.R.P.length 0) ∧ X.cell? ⟨gT, j * 10 + 9, none⟩ = some (.slice none e.q.R.E.length 0) :=
 ⟨row_sub h hc j e hj 0 (by decide), row_sub h hc j e hj 1 (by decide), row_sub h hc j e hj 2 (by decide), row_sub h hc j e hj 3 (by decide), row_sub h hc j e hj 4 (by decide), row_sub h hc j e hj 5 (by decide), row_sub h hc j e hj 6 (by decide), row_sub h hc j e hj 7 (by decide), row_sub h hc j e hj 8 (by decide), row_sub h hc j e hj 9 (by decide)⟩
theorem ordS_top (l : List Int) (hs : ShY l) (b r o : Nat) (ho : o ≤ 4) : ordS l b r o ≤ 18000000000000 := by
 have h1 := chS_le (ordF l b r o) (fun i => ordF_14 l hs b r o i) (2 ^ o)
 have h2 : 2 ^ o ≤ 2 ^ 4 := Nat.pow_le_pow_right (by decide) ho
 unfold ordS
 omega
theorem lfR_eq (lv : Int) (q0 : Sb) (h : q0 ∈ trL lv 0) (m : List Int) : lfR q0 m = if q0.o ≤ (m.length : Int) then some (resN q0 m) else none := by
 obtain ⟨ht, hk⟩ := trL_tried lv 0 q0 h
 have h4 := tried_o 0 q0 ht
 rcases hk with k2 | k3
 ·unfold lfR fixR resN
  rw [if_pos k2, if_pos k2]
  by_cases ho : q0.o ≤ (m.length : Int)
  ·rw [if_pos ho, if_pos ⟨h4.1, h4.2, ho⟩]
  ·rw [if_neg ho, if_neg (fun h => ho h.2.2)]
 ·obtain ⟨C, hC, rfl⟩ : ∃ C ∈ lpcs, q0 = lpS 0 C := by
   rcases ht with h | h | ⟨o, _, h⟩ | h
   ·rw [h] at k3; exact absurd k3 (by decide)
   ·rw [h] at k3; exact absurd k3 (by show ¬ (1 : Int) = 3; decide)
   ·rw [h] at k3; exact absurd k3 (by show ¬ (2 : Int) = 3; decide)
   ·exact h
  have hm : mayB C 5 = true := by
   rcases List.mem_cons.1 hC with rfl | hC
   ·decide
   rcases List.mem_cons.1 hC with rfl | hC
   ·decide
   rcases List.mem_cons.1 hC with rfl | hC
   ·decide
   cases hC
  have n2 : ¬ (lpS 0 C).k = 2 := by rw [k3]; decide
  unfold lfR resN
  rw [if_neg n2, if_neg n2]
  unfold lpcR
  show (if mayB C 5 = true ∧ C.length ≤ m.length then some (leftN C (5 : Int).toNat m (m.length - C.length)) else none) = if (C.length : Int) ≤ (m.length : Int) then some (leftN C (5 : Int).toNat m (m.length - (C.length : Int).toNat)) else none
  by_cases ho : C.length ≤ m.length
  ·rw [if_pos ⟨hm, ho⟩, if_pos (by omega), Int.toNat_natCast]
  ·rw [if_neg (fun h => ho h.2), if_neg (by omega)]
theorem wiW_tried (lv w : Int) (q0 : Sb) (h : q0 ∈ trL lv 0) : wiW w q0 ∈ trL lv w := by
 rw [trL_w]; exact List.mem_map.2 ⟨q0, h, rfl⟩
theorem pr_no (lv v : Int) (l : List Int) (q0 : Sb) (h : q0 ∈ trL lv 0) (ho : ¬ q0.o ≤ (l.length : Int)) : lfR q0 (shrL l (wasN l)) = none ∧ opS v l (shrL l (wasN l)) (wiW (wasN l : Int) q0) = none := by
 obtain ⟨ht, hk⟩ := trL_tried lv 0 q0 h
 refine ⟨by rw [lfR_eq lv q0 h, shrL_ln, if_neg ho], ?_⟩
 have hv : ¬ vaB (wiW (wasN l : Int) q0) l = true := by
  unfold vaB wiW
  dsimp only
  rw [if_neg (by omega), if_neg (by omega), decide_eq_true_iff]
  exact ho
 unfold opS
 rw [if_neg hv]
theorem pr_yes (lv v : Int) (l : List Int) (q0 : Sb) (h : q0 ∈ trL lv 0) (ho : q0.o ≤ (l.length : Int)) (hv : 1 ≤ v ∧ v ≤ 33) (hn1 : 1 ≤ l.length) (hn2 : l.length ≤ 65535) (hfit : ∀ x ∈ l, sigE x v = 0) :
  ∃ (R : List Int) (rc : Rc) (nb p cf N r : Nat), lfR q0 (shrL l (wasN l)) = some R ∧ (ShY R ∧ R.length = (shrL l (wasN l)).length - r ∧ q0.o = (r : Int) ∧ r ≤ 4 ∧ r ≤ (shrL l (wasN l)).length) ∧ (rc = bestRc R (shrL l (wasN l)).length r (bestK (ordS R (shrL l (wasN l)).length r) (fnO (shrL l (wasN l)).length r)) ∧ nb = ordS R (shrL l (wasN l)).length r (bestK (ordS R (shrL l (wasN l)).length r) (fnO (shrL l (wasN l)).length r))) ∧ (nb ≤ 18000000000000 ∧ p ≤ 1000 ∧ cf ≤ 1000) ∧ q0.o * ((v.toNat - wasN l : Nat) : Int) = (p : Int) ∧ (cf : Int) = (if q0.k = 2 then 0 else 9 + q0.o * q0.p) ∧ I64 (q0.o * q0.p) ∧ N = 8 + wasN l + (p + cf + nb) ∧ opS v l (shrL l (wasN l)) (wiW (wasN l : Int) q0) = some (⟨q0.k, q0.o, (wasN l : Int), q0.p, q0.h, q0.C, rc⟩, N) := by
 obtain ⟨ht0, hk⟩ := trL_tried lv 0 q0 h
 obtain ⟨ht, _⟩ := trL_tried lv (wasN l : Int) _ (wiW_tried lv (wasN l : Int) q0 h)
 have h4 := tried_o 0 q0 ht0
 have hln := shrL_ln l (wasN l)
 have hm := shr_small l v hv.1 hv.2 hfit
 have hw := was_lt l v hv.1 hfit
 obtain ⟨hs, hlen⟩ := tried_res _ _ ht hk (shrL l (wasN l)) hm (by omega)
 have hres : resN (wiW (wasN l : Int) q0) (shrL l (wasN l)) = resN q0 (shrL l (wasN l)) := rfl
 rw [hres] at hs hlen
 have ho' : (wiW (wasN l : Int) q0).o = q0.o := rfl
 rw [ho'] at hlen
 have hbits := sub_bits l v _ ht ho hv hn1 hn2 hfit
 have hric := (tried_rice l v _ ht hk ho hv hn1 hn2 hfit).1
 have hwi := wiS_k (wiW (wasN l : Int) q0) (shrL l (wasN l))
 have hvb : vaB (wiW (wasN l : Int) q0) l = true := by
  unfold vaB wiW
  dsimp only
  rw [if_neg (by omega), if_neg (by omega), decide_eq_true_iff]
  exact ho
 have hzz : wiS (wiW (wasN l : Int) q0) (shrL l (wasN l)) = ⟨q0.k, q0.o, (wasN l : Int), q0.p, q0.h, q0.C, brN l.length q0.o.toNat (resN q0 (shrL l (wasN l)))⟩ := by
  have e0 : (wiW (wasN l : Int) q0).k = q0.k := rfl
  unfold wiS
  rw [if_neg (by rw [e0]; omega), hln]
  rfl
 have hcf : (q0.k = 2 ∧ 0 ≤ q0.o * q0.p ∧ q0.o * q0.p ≤ 100) ∨ (q0.k = 3 ∧ q0.p = 7) := by
  rcases ht0 with h | h | ⟨o, _, h⟩ | ⟨C, hC, h⟩
  ·rw [h] at hk; exact absurd hk (by show ¬ ((0 : Int) = 2 ∨ (0 : Int) = 3); decide)
  ·rw [h] at hk; exact absurd hk (by show ¬ ((1 : Int) = 2 ∨ (1 : Int) = 3); decide)
  ·left; rw [h]; refine ⟨rfl, ?_⟩
   have e : (fxS 0 o).p = 0 := rfl
   rw [e, Int.mul_zero]; exact ⟨by decide, by decide⟩
  ·right; rw [h]; exact ⟨rfl, rfl⟩
 obtain ⟨r, hr⟩ : ∃ r : Nat, q0.o = (r : Int) := ⟨q0.o.toNat, by omega⟩
 have hrt : q0.o.toNat = r := by omega
 refine ⟨resN q0 (shrL l (wasN l)), brN l.length r (resN q0 (shrL l (wasN l))), _, r * (v.toNat - wasN l), if q0.k = 2 then 0 else 9 + r * 7, _, r, by rw [lfR_eq lv q0 h, hln, if_pos ho], ⟨hs, by rw [hlen, hrt], hr, by omega, by omega⟩, ⟨by unfold brN; rw [hln], rfl⟩, ⟨?_, ?_, ?_⟩, by rw [hr]; simp, ?_, ?_, rfl, ?_⟩
 ·have hk4 := bestK_le (ordS (resN q0 (shrL l (wasN l))) (shrL l (wasN l)).length r) (fnO (shrL l (wasN l)).length r)
  have hf4 := (fnO_best (shrL l (wasN l)).length r (by omega) (by omega) (by omega) (by omega)).1
  exact ordS_top _ hs _ _ _ (by omega)
 ·have h1 : r ≤ 4 := by omega
  have h2 : v.toNat - wasN l ≤ 33 := by omega
  exact Nat.le_trans (Nat.mul_le_mul h1 h2) (by decide)
 ·split <;> omega
 ·rcases hcf with ⟨k2, _⟩ | ⟨k3, p7⟩
  ·rw [if_pos k2, if_pos k2]; rfl
  ·rw [if_neg (by omega), if_neg (by omega), p7, hr]; simp
 ·rcases hcf with ⟨k2, h1, h2⟩ | ⟨k3, p7⟩
  ·exact ⟨by omega, by omega⟩
  ·rw [p7, hr]; exact ⟨by omega, by omega⟩
 ·unfold opS
  rw [if_pos hvb, hbits, hzz, hrt]
  congr 2
  unfold blN
  have e0 : (wiW (wasN l : Int) q0).k = q0.k := rfl
  rw [e0, ho', hrt, hres, if_neg (by omega), if_neg (by omega)]
theorem cs_yes (v : Int) (l : List Int) (hs : l.all (fun x => x == l.getD 0 0) = true) (hv : 1 ≤ v ∧ v ≤ 33) (hn1 : 1 ≤ l.length) (hn2 : l.length ≤ 65535) (hfit : ∀ x ∈ l, sigE x v = 0) : opS v l (shrL l (wasN l)) (cnS (wasN l : Int)) = some (cnS (wasN l : Int), 8 + wasN l + (v.toNat - wasN l)) := by
 have hb := sub_bits l v _ (Or.inl rfl) (by show (0 : Int) ≤ _; omega) hv hn1 hn2 hfit
 have h1 : wiS (cnS (wasN l : Int)) (shrL l (wasN l)) = cnS (wasN l : Int) := by unfold wiS; exact if_pos (Or.inl rfl)
 rw [h1] at hb
 have hva : vaB (cnS (wasN l : Int)) l = true := by unfold vaB; rw [if_pos (show (cnS _).k = 0 from rfl)]; exact hs
 unfold opS
 rw [if_pos hva, h1, hb]
 rfl
theorem cs_no (v : Int) (l m : List Int) (w : Int) (hs : ¬ l.all (fun x => x == l.getD 0 0) = true) : opS v l m (cnS w) = none := by
 have hva : ¬ vaB (cnS w) l = true := by unfold vaB; rw [if_pos (show (cnS _).k = 0 from rfl)]; exact hs
 unfold opS
 rw [if_neg hva]
theorem vb_bits (v : Int) (l : List Int) (hv : 1 ≤ v ∧ v ≤ 33) (hn1 : 1 ≤ l.length) (hn2 : l.length ≤ 65535) (hfit : ∀ x ∈ l, sigE x v = 0) : (subB (vbS (wasN l : Int)) v l).length = 8 + wasN l + (shrL l (wasN l)).length * (v.toNat - wasN l) := by
 have hb := sub_bits l v _ (Or.inr (Or.inl rfl)) (by show (0 : Int) ≤ _; omega) hv hn1 hn2 hfit
 have h1 : wiS (vbS (wasN l : Int)) (shrL l (wasN l)) = vbS (wasN l : Int) := by unfold wiS; exact if_pos (Or.inr rfl)
 rw [h1] at hb
 rw [hb]
 rfl
end Go.Proofs.YthgpleelpeacjaaGreatDoor
