/- Own text. -/
import Derived.Test.YthgpleelpeacjaaGreatDoorH11
import Derived.Deep.RegionLaw
set_option linter.unusedSimpArgs false
set_option linter.unusedVariables false
set_option maxRecDepth 20000
set_option maxHeartbeats 12800000
namespace Go.Proofs.YthgpleelpeacjaaGreatDoor
open Go.RowKit
theorem xtries0 (lv : Int) (wst : Int) (hw0 : 0 ≤ wst ∧ wst ≤ 31) (hlv : lv = 0) (w : World) : Calls Tryz.prog 32 #[.int .i64 lv, .int .i64 wst] w fun e w' => ∃ so cap L, e = .returned (.slice so L.length cap) ∧ TS w (.slice so L.length cap) L w' ∧ L.map (·.q) = trL lv wst := by
 obtain ⟨iS, hSa, hSb, hSc, hSd⟩ := sub_info12
 subst hlv
 go_enter Tryz.func32, Tryz.ntmps32
 go_wp2_with fail
 go_loopw [5, 7] (fun s5 s7 wr => ∃ (j : Nat) (v : Value) (L : List El), j ≤ 3 ∧ s7 = .int .i64 (j : Int) ∧ s5 = v ∧ L.map (·.q) = (List.range j).map (fxS wst) ∧ TS w v L wr) (fun _ s7 _ => 3 - (intOf s7).toNat)
 case atStart => exact ⟨0, _, [], by omega, rfl, rfl, rfl, TS.nil w⟩
 case round =>
  obtain ⟨j, v, L, hj, rfl, rfl, hmap, hts⟩ := hrel
  have HMP : Hid (L.map (·.q) = (List.range j).map (fxS wst)) := hmap
  obtain ⟨oa, oc, rfl⟩ := hts.shape
  have HTS : Hid (TS w (.slice oa L.length oc) L wr) := hts
  have hLl : L.length = j := by have := congrArg List.length hmap; simpa using this
  clear hts hmap
  by_cases hlt : j < 3
  ·have hL5 : L.length ≤ 10 := by omega
   have HLL : Hid (L.length = j) := hLl
   clear hLl
   go_wp2_with (at_builtin; refine wpList_append_lies _ rfl (.tmp 17) (.tmp 21) 39 rfl w.heap.size 27 iS (.agg (subC ⟨0, 0, 0, 0, 0, [], R00⟩ none 0 none 0 none 0)) 10 128 undSubs12 hSa hSb hSc hSd rfl (by decide) (.slice oa L.length oc) L.length (rowC L) rfl (HTS.out.low ((Below.refl _ _).alloc (Nat.le_refl _) _)).own ⟨wr.heap.size, 0, none⟩ 1 1 ((subC (fxS wst j) none 0 none 0 none 0)).toList rfl rfl (World.news_of_block (cs := (subC (fxS wst j) none 0 none 0 none 0)) (t := 27) (fr := (0, 0)) (heap_alloc_new _ _)) (by intro u hu; simp at hu; rcases hu with h | h | h | h | h | h | h | h | h | h <;> (rw [h]; rfl)) (by decide) (by unfold maxLen; omega) (by omega) (HTS.out.low ((Below.refl _ _).alloc (Nat.le_refl _) _)).below.size _ rfl ?_; intro gA cA wA ownA groA hatA hltA)
   have HPA : Hid (TS w (.slice (some ⟨gA, 0, none⟩) (L.length + 1) cA) (L ++ [⟨fxS wst j, none, 0⟩]) wA) := (HTS.out.low ((Below.refl _ _).alloc (Nat.le_refl _) _)).push (M := [⟨fxS wst j, none, 0⟩]) (by rw [rowC_one]; exact ownA) groA hatA (fun e he => by
    rw [List.mem_singleton] at he; subst he; exact ⟨IntsAt.nil _, fun h0 => absurd h0 (Nat.lt_irrefl 0)⟩)
   have HM2 : Hid ((L ++ [(⟨fxS wst j, none, 0⟩ : El)]).map (·.q) = (List.range (j + 1)).map (fxS wst)) := by
    show _ = _
    rw [List.map_append, HMP.out, List.range_succ, List.map_append]; rfl
   clear ownA groA hatA hltA
   go_wp2_with fail
   go_roundw
   case rel => exact ⟨j + 1, _, _, by omega, by go_num, rfl, HM2.out, HPA.out⟩
   case measure => simp [intOf]; omega
  ·have hjK : j = 3 := by omega
   subst hjK
   go_wp2_with fail
   go_ret
   exact ⟨oa, oc, L, rfl, HTS.out, by rw [HMP.out]; unfold trL; rw [if_neg (by decide), if_neg (by decide)]; simp⟩
theorem xtries1 (lv : Int) (wst : Int) (hw0 : 0 ≤ wst ∧ wst ≤ 31) (hlv : lv = 1) (w : World) : Calls Tryz.prog 32 #[.int .i64 lv, .int .i64 wst] w fun e w' => ∃ so cap L, e = .returned (.slice so L.length cap) ∧ TS w (.slice so L.length cap) L w' ∧ L.map (·.q) = trL lv wst := by
 obtain ⟨iS, hSa, hSb, hSc, hSd⟩ := sub_info12
 subst hlv
 go_enter Tryz.func32, Tryz.ntmps32
 go_wp2_with fail
 go_loopw [5, 7] (fun s5 s7 wr => ∃ (j : Nat) (v : Value) (L : List El), j ≤ 5 ∧ s7 = .int .i64 (j : Int) ∧ s5 = v ∧ L.map (·.q) = (List.range j).map (fxS wst) ∧ TS w v L wr) (fun _ s7 _ => 5 - (intOf s7).toNat)
 case atStart => exact ⟨0, _, [], by omega, rfl, rfl, rfl, TS.nil w⟩
 case round =>
  obtain ⟨j, v, L, hj, rfl, rfl, hmap, hts⟩ := hrel
  have HMP : Hid (L.map (·.q) = (List.range j).map (fxS wst)) := hmap
  obtain ⟨oa, oc, rfl⟩ := hts.shape
  have HTS : Hid (TS w (.slice oa L.length oc) L wr) := hts
  have hLl : L.length = j := by have := congrArg List.length hmap; simpa using this
  clear hts hmap
  by_cases hlt : j < 5
  ·have hL5 : L.length ≤ 10 := by omega
   have HLL : Hid (L.length = j) := hLl
   clear hLl
   go_wp2_with (at_builtin; refine wpList_append_lies _ rfl (.tmp 17) (.tmp 21) 39 rfl w.heap.size 27 iS (.agg (subC ⟨0, 0, 0, 0, 0, [], R00⟩ none 0 none 0 none 0)) 10 128 undSubs12 hSa hSb hSc hSd rfl (by decide) (.slice oa L.length oc) L.length (rowC L) rfl (HTS.out.low ((Below.refl _ _).alloc (Nat.le_refl _) _)).own ⟨wr.heap.size, 0, none⟩ 1 1 ((subC (fxS wst j) none 0 none 0 none 0)).toList rfl rfl (World.news_of_block (cs := (subC (fxS wst j) none 0 none 0 none 0)) (t := 27) (fr := (0, 0)) (heap_alloc_new _ _)) (by intro u hu; simp at hu; rcases hu with h | h | h | h | h | h | h | h | h | h <;> (rw [h]; rfl)) (by decide) (by unfold maxLen; omega) (by omega) (HTS.out.low ((Below.refl _ _).alloc (Nat.le_refl _) _)).below.size _ rfl ?_; intro gA cA wA ownA groA hatA hltA)
   have HPA : Hid (TS w (.slice (some ⟨gA, 0, none⟩) (L.length + 1) cA) (L ++ [⟨fxS wst j, none, 0⟩]) wA) := (HTS.out.low ((Below.refl _ _).alloc (Nat.le_refl _) _)).push (M := [⟨fxS wst j, none, 0⟩]) (by rw [rowC_one]; exact ownA) groA hatA (fun e he => by
    rw [List.mem_singleton] at he; subst he; exact ⟨IntsAt.nil _, fun h0 => absurd h0 (Nat.lt_irrefl 0)⟩)
   have HM2 : Hid ((L ++ [(⟨fxS wst j, none, 0⟩ : El)]).map (·.q) = (List.range (j + 1)).map (fxS wst)) := by
    show _ = _
    rw [List.map_append, HMP.out, List.range_succ, List.map_append]; rfl
   clear ownA groA hatA hltA
   go_wp2_with fail
   go_roundw
   case rel => exact ⟨j + 1, _, _, by omega, by go_num, rfl, HM2.out, HPA.out⟩
   case measure => simp [intOf]; omega
  ·have hjK : j = 5 := by omega
   subst hjK
   go_wp2_with fail
   go_ret
   exact ⟨oa, oc, L, rfl, HTS.out, by rw [HMP.out]; unfold trL; rw [if_pos (by decide), if_neg (by decide)]; simp⟩
structure LR (w : World) (v : Value) (g b0 b1 b2 : Nat) (X : World) : Prop where
 row : X.heap[g]? = some (.cells #[.slice (some ⟨b0, 0, none⟩) 1 1, .slice (some ⟨b1, 0, none⟩) 2 2, .slice (some ⟨b2, 0, none⟩) 2 2] 22 (0, 0))
 i0 : X.heap[b0]? = some (.cells #[.int .i64 31] 3 (0, 0))
 i1 : X.heap[b1]? = some (.cells #[.int .i64 60, .int .i64 (-29)] 3 (0, 0))
 i2 : X.heap[b2]? = some (.cells #[.int .i64 63, .int .i64 (-31)] 3 (0, 0))
 ne : ∀ k, (k = g ∨ k = b0 ∨ k = b1 ∨ k = b2) → w.heap.size ≤ k ∧ v.ownBlock ≠ some k
section
variable {w X X' : World} {v : Value} {g b0 b1 b2 : Nat}
theorem LR.low (h : LR w v g b0 b1 b2 X) (hb : Below X.heap.size X X') : LR w v g b0 b1 b2 X' :=
 ⟨by rw [hb.block _ (lt_of_block h.row)]; exact h.row, by rw [hb.block _ (lt_of_block h.i0)]; exact h.i0, by rw [hb.block _ (lt_of_block h.i1)]; exact h.i1, by rw [hb.block _ (lt_of_block h.i2)]; exact h.i2, h.ne⟩
theorem LR.grow (h : LR w v g b0 b1 b2 X) (hg : X.grownBy X' v.ownBlock) {G n cap : Nat} (hat : v.ownBlock = some G ∨ G = X.heap.size) : LR w (.slice (some ⟨G, 0, none⟩) n cap) g b0 b1 b2 X' := by
 have keep : ∀ k, (k = g ∨ k = b0 ∨ k = b1 ∨ k = b2) → k < X.heap.size → X'.heap[k]? = X.heap[k]? := fun k hk hl => hg.block k hl (fun e => (h.ne k hk).2 e.symm)
 have lt : ∀ k, (k = g ∨ k = b0 ∨ k = b1 ∨ k = b2) → k < X.heap.size := fun k hk => by
  rcases hk with rfl | rfl | rfl | rfl
  ·exact lt_of_block h.row
  ·exact lt_of_block h.i0
  ·exact lt_of_block h.i1
  ·exact lt_of_block h.i2
 refine ⟨by rw [keep g (by simp) (lt_of_block h.row)]; exact h.row, by rw [keep b0 (by simp) (lt_of_block h.i0)]; exact h.i0, by rw [keep b1 (by simp) (lt_of_block h.i1)]; exact h.i1, by rw [keep b2 (by simp) (lt_of_block h.i2)]; exact h.i2, fun k hk => ⟨(h.ne k hk).1, fun e => ?_⟩⟩
 have e3 : G = k := by simpa [Value.ownBlock] using e
 rcases hat with h1 | h1
 ·exact (h.ne k hk).2 (by rw [h1, e3])
 ·have := lt k hk; omega
theorem LR.new {L : List El} (h : TS w v L X) : LR w v (X.heap.size + 3) X.heap.size (X.heap.size + 1) (X.heap.size + 2) ((((X.alloc (.cells #[.int .i64 31] 3)).alloc (.cells #[.int .i64 60, .int .i64 (-29)] 3)).alloc (.cells #[.int .i64 63, .int .i64 (-31)] 3)).alloc (.cells #[.slice (some ⟨X.heap.size, 0, none⟩) 1 1, .slice (some ⟨X.heap.size + 1, 0, none⟩) 2 2, .slice (some ⟨X.heap.size + 2, 0, none⟩) 2 2] 22)) := by
 have hz := h.below.size
 refine ⟨?_, ?_, ?_, ?_, fun k hk => ⟨by omega, fun e => by have := (h.own.lt k e).2; omega⟩⟩
 ·have := heap_alloc_new (((X.alloc (.cells #[.int .i64 31] 3)).alloc (.cells #[.int .i64 60, .int .i64 (-29)] 3)).alloc (.cells #[.int .i64 63, .int .i64 (-31)] 3)) (.cells #[.slice (some ⟨X.heap.size, 0, none⟩) 1 1, .slice (some ⟨X.heap.size + 1, 0, none⟩) 2 2, .slice (some ⟨X.heap.size + 2, 0, none⟩) 2 2] 22)
  simpa using this
 ·rw [Below.heap_alloc _ _ _ (by simp; omega)]; exact (heap_three _ _ _ _).1
 ·rw [Below.heap_alloc _ _ _ (by simp)]; exact (heap_three _ _ _ _).2.1
 ·rw [Below.heap_alloc _ _ _ (by simp)]; exact (heap_three _ _ _ _).2.2
end
def TrM (wst : Int) (i : Nat) (M : List El) : Prop := M.map (·.q) = (List.range 5).map (fxS wst) ++ (lpcs.take i).map (lpS wst)
theorem ints_new2 {w : World} {g : Nat} (l : List Int) (h : w.heap[g]? = some (.cells (l.map (fun n => Value.int .i64 n)).toArray 3 (0, 0))) (hn : l.length ≤ 1000 ∧ ∀ n ∈ l, -9223372036854775808 ≤ n ∧ n ≤ 9223372036854775807) : IntsAt w (some ⟨g, 0, none⟩) l := by
 refine ⟨by omega, hn.2, fun h0 => ⟨g, 0, rfl, fun j hj => ?_⟩⟩
 rw [cell_of_row _ _ _ _ _ _ h, Nat.zero_add, List.getElem?_toArray, List.getElem?_map, List.getElem?_eq_getElem hj, List.getD_eq_getElem?_getD, List.getElem?_eq_getElem hj]
 rfl
theorem xtries2 (lv : Int) (wst : Int) (hw0 : 0 ≤ wst ∧ wst ≤ 31) (hlv : lv = 2) (w : World) : Calls Tryz.prog 32 #[.int .i64 lv, .int .i64 wst] w fun e w' => ∃ so cap L, e = .returned (.slice so L.length cap) ∧ TS w (.slice so L.length cap) L w' ∧ L.map (·.q) = trL lv wst := by
 obtain ⟨iS, hSa, hSb, hSc, hSd⟩ := sub_info12
 subst hlv
 go_enter Tryz.func32, Tryz.ntmps32
 go_wp2_with fail
 go_loopw [5, 7] (fun s5 s7 wr => ∃ (j : Nat) (v : Value) (L : List El), j ≤ 5 ∧ s7 = .int .i64 (j : Int) ∧ s5 = v ∧ L.map (·.q) = (List.range j).map (fxS wst) ∧ TS w v L wr) (fun _ s7 _ => 5 - (intOf s7).toNat)
 case atStart => exact ⟨0, _, [], by omega, rfl, rfl, rfl, TS.nil w⟩
 case round =>
  obtain ⟨j, v, L, hj, rfl, rfl, hmap, hts⟩ := hrel
  have HMP : Hid (L.map (·.q) = (List.range j).map (fxS wst)) := hmap
  obtain ⟨oa, oc, rfl⟩ := hts.shape
  have HTS : Hid (TS w (.slice oa L.length oc) L wr) := hts
  have hLl : L.length = j := by have := congrArg List.length hmap; simpa using this
  clear hts hmap
  by_cases hlt : j < 5
  ·have hL5 : L.length ≤ 10 := by omega
   have HLL : Hid (L.length = j) := hLl
   clear hLl
   go_wp2_with (at_builtin; refine wpList_append_lies _ rfl (.tmp 17) (.tmp 21) 39 rfl w.heap.size 27 iS (.agg (subC ⟨0, 0, 0, 0, 0, [], R00⟩ none 0 none 0 none 0)) 10 128 undSubs12 hSa hSb hSc hSd rfl (by decide) (.slice oa L.length oc) L.length (rowC L) rfl (HTS.out.low ((Below.refl _ _).alloc (Nat.le_refl _) _)).own ⟨wr.heap.size, 0, none⟩ 1 1 ((subC (fxS wst j) none 0 none 0 none 0)).toList rfl rfl (World.news_of_block (cs := (subC (fxS wst j) none 0 none 0 none 0)) (t := 27) (fr := (0, 0)) (heap_alloc_new _ _)) (by intro u hu; simp at hu; rcases hu with h | h | h | h | h | h | h | h | h | h <;> (rw [h]; rfl)) (by decide) (by unfold maxLen; omega) (by omega) (HTS.out.low ((Below.refl _ _).alloc (Nat.le_refl _) _)).below.size _ rfl ?_; intro gA cA wA ownA groA hatA hltA)
   have HPA : Hid (TS w (.slice (some ⟨gA, 0, none⟩) (L.length + 1) cA) (L ++ [⟨fxS wst j, none, 0⟩]) wA) := (HTS.out.low ((Below.refl _ _).alloc (Nat.le_refl _) _)).push (M := [⟨fxS wst j, none, 0⟩]) (by rw [rowC_one]; exact ownA) groA hatA (fun e he => by
    rw [List.mem_singleton] at he; subst he; exact ⟨IntsAt.nil _, fun h0 => absurd h0 (Nat.lt_irrefl 0)⟩)
   have HM2 : Hid ((L ++ [(⟨fxS wst j, none, 0⟩ : El)]).map (·.q) = (List.range (j + 1)).map (fxS wst)) := by
    show _ = _
    rw [List.map_append, HMP.out, List.range_succ, List.map_append]; rfl
   clear ownA groA hatA hltA
   go_wp2_with fail
   go_roundw
   case rel => exact ⟨j + 1, _, _, by omega, by go_num, rfl, HM2.out, HPA.out⟩
   case measure => simp [intOf]; omega
  ·have hjK : j = 5 := by omega
   have HJK : Hid (j = 5) := hjK
   clear hjK
   have HLN : Hid (LR w (.slice oa L.length oc) (wr.heap.size + 3) wr.heap.size (wr.heap.size + 1) (wr.heap.size + 2) ((((wr.alloc (.cells #[.int .i64 31] 3)).alloc (.cells #[.int .i64 60, .int .i64 (-29)] 3)).alloc (.cells #[.int .i64 63, .int .i64 (-31)] 3)).alloc (.cells #[.slice (some ⟨wr.heap.size, 0, none⟩) 1 1, .slice (some ⟨wr.heap.size + 1, 0, none⟩) 2 2, .slice (some ⟨wr.heap.size + 2, 0, none⟩) 2 2] 22))) := LR.new HTS.out
   have HTN : Hid (TS w (.slice oa L.length oc) L ((((wr.alloc (.cells #[.int .i64 31] 3)).alloc (.cells #[.int .i64 60, .int .i64 (-29)] 3)).alloc (.cells #[.int .i64 63, .int .i64 (-31)] 3)).alloc (.cells #[.slice (some ⟨wr.heap.size, 0, none⟩) 1 1, .slice (some ⟨wr.heap.size + 1, 0, none⟩) 2 2, .slice (some ⟨wr.heap.size + 2, 0, none⟩) 2 2] 22))) := HTS.out.low ((((((Below.refl _ _).alloc (Nat.le_refl _) _).alloc (by simp) _).alloc (by simp; omega) _).alloc (by simp; omega) _))
   clear HTS
   go_wp2_with fail
   generalize hww : World.alloc _ _ = wn at *
   clear hww
   generalize wr.heap.size + 3 = g at *
   generalize wr.heap.size + 2 = b2 at *
   generalize wr.heap.size + 1 = b1 at *
   generalize wr.heap.size = b0 at *
   go_loopw [5, 9] (fun s5 s9 wy => ∃ (i : Nat) (v : Value) (M : List El), i ≤ 3 ∧ s9 = .int .i64 (i : Int) ∧ s5 = v ∧ TrM wst i M ∧ TS w v M wy ∧ LR w v g b0 b1 b2 wy) (fun _ s9 _ => 3 - (intOf s9).toNat)
   case atStart => exact ⟨0, _, L, by omega, rfl, rfl, by unfold TrM; rw [HMP.out, HJK.out]; simp, HTN.out, HLN.out⟩
   case round =>
    clear HTN HLN HMP
    obtain ⟨i, v, M, hi, rfl, rfl, hmap, hts, hlr⟩ := hrel
    obtain ⟨oa, oc, rfl⟩ := hts.shape
    have hLl : M.length ≤ 20 := by
     have hm2 := hmap
     unfold TrM at hm2
     have := congrArg List.length hm2
     simp at this
     omega
    obtain ⟨L, hLM⟩ : ∃ L, L = M := ⟨_, rfl⟩
    subst hLM
    have HTS : Hid (TS w (.slice oa L.length oc) L wr) := hts
    have HLR : Hid (LR w (.slice oa L.length oc) g b0 b1 b2 wr) := hlr
    clear hts hlr
    have HMP : Hid (TrM wst i L) := hmap
    clear hmap
    rcases (show i = 0 ∨ i = 1 ∨ i = 2 ∨ i = 3 by omega) with hi0 | hi0 | hi0 | hi0
    ·have HI : Hid (i = 0) := hi0
     have hi3 : i < 3 := by omega
     have c0 : wr.cell? ⟨g, i, none⟩ = some (.slice (some ⟨b0, 0, none⟩) 1 1) := by rw [cell_of_row _ _ _ _ _ _ HLR.out.row, hi0]; rfl
     clear hi0
     have HTD : Hid (TS w (.slice oa L.length oc) L wr.drew) := HTS.out.low ⟨rfl, rfl, rfl, Nat.le_refl _, fun _ _ => rfl⟩
     have HLD : Hid (LR w (.slice oa L.length oc) g b0 b1 b2 wr.drew) := HLR.out.low ⟨rfl, rfl, rfl, Nat.le_refl _, fun _ _ => rfl⟩
     have HII : Hid (IntsAt wr.drew (some ⟨b0, 0, none⟩) [31]) := ints_new2 [31] HLD.out.i0 (by decide)
     go_wp2_with fail
     go_region_law ((refine step_append_lies _ rfl (.tmp 35) (.tmp 47) 39 rfl w.heap.size 27 iS (.agg (subC ⟨0, 0, 0, 0, 0, [], R00⟩ none 0 none 0 none 0)) 10 128 undSubs12 hSa hSb hSc hSd rfl (by decide) (.slice oa L.length oc) L.length (rowC L) (by simp [Act.eval, Act.put]) (HTD.out.low ((Below.refl _ _).alloc (Nat.le_refl _) _)).own ⟨wr.heap.size, 0, none⟩ 1 1 (subC (lpS wst [31]) (some ⟨b0, 0, none⟩) 1 none 0 none 0).toList (by simp [Act.eval, Act.put]) rfl (World.news_of_block (cs := (subC (lpS wst [31]) (some ⟨b0, 0, none⟩) 1 none 0 none 0)) (t := 27) (fr := (0, 0)) (heap_alloc_new wr.drew _)) (by intro u hu; simp at hu; rcases hu with h | h | h | h | h | h | h | h | h | h <;> (rw [h]; rfl)) (by decide) (by unfold maxLen; omega) (by omega) (HTD.out.low ((Below.refl _ _).alloc (Nat.le_refl _) _)).below.size _ rfl ?_; intro gA cA wA ownA groA hatA hltA))
     all_goals
      have HPA : Hid (TS w (.slice (some ⟨gA, 0, none⟩) (L.length + 1) cA) (L ++ [⟨lpS wst [31], some ⟨b0, 0, none⟩, 1⟩]) wA) := (HTD.out.low ((Below.refl _ _).alloc (Nat.le_refl _) _)).push (M := [⟨lpS wst [31], some ⟨b0, 0, none⟩, 1⟩]) (by rw [rowC_one]; exact ownA) groA hatA (fun e he => by
       rw [List.mem_singleton] at he; subst he
       refine ⟨HII.out.below ((Below.refl _ _).alloc (Nat.le_refl _) _), fun h0 b hb => ?_⟩
       have e : b0 = b := by simpa [blockOf] using hb
       rw [← e]; exact HLD.out.ne b0 (by simp))
      have HLA : Hid (LR w (.slice (some ⟨gA, 0, none⟩) (L.length + 1) cA) g b0 b1 b2 wA) := (HLD.out.low ((Below.refl _ _).alloc (Nat.le_refl _) _)).grow groA hatA
      have HM2 : Hid (TrM wst (i + 1) (L ++ [(⟨lpS wst [31], some ⟨b0, 0, none⟩, 1⟩ : El)])) := by
       rw [HI.out]
       have hh := HMP.out
       unfold TrM at *
       rw [List.map_append, hh, HI.out, List.append_assoc]; rfl
      clear ownA groA hatA hltA
      go_wp2_with fail
      go_roundw
      case rel => exact ⟨i + 1, _, _, by omega, by go_num, rfl, HM2.out, HPA.out, HLA.out⟩
      case measure => simp [intOf]; omega
    ·have HI : Hid (i = 1) := hi0
     have hi3 : i < 3 := by omega
     have c1 : wr.cell? ⟨g, i, none⟩ = some (.slice (some ⟨b1, 0, none⟩) 2 2) := by rw [cell_of_row _ _ _ _ _ _ HLR.out.row, hi0]; rfl
     clear hi0
     have HTD : Hid (TS w (.slice oa L.length oc) L wr.drew) := HTS.out.low ⟨rfl, rfl, rfl, Nat.le_refl _, fun _ _ => rfl⟩
     have HLD : Hid (LR w (.slice oa L.length oc) g b0 b1 b2 wr.drew) := HLR.out.low ⟨rfl, rfl, rfl, Nat.le_refl _, fun _ _ => rfl⟩
     have HII : Hid (IntsAt wr.drew (some ⟨b1, 0, none⟩) [60, -29]) := ints_new2 [60, -29] HLD.out.i1 (by decide)
     go_wp2_with fail
     go_region_law ((refine step_append_lies _ rfl (.tmp 35) (.tmp 47) 39 rfl w.heap.size 27 iS (.agg (subC ⟨0, 0, 0, 0, 0, [], R00⟩ none 0 none 0 none 0)) 10 128 undSubs12 hSa hSb hSc hSd rfl (by decide) (.slice oa L.length oc) L.length (rowC L) (by simp [Act.eval, Act.put]) (HTD.out.low ((Below.refl _ _).alloc (Nat.le_refl _) _)).own ⟨wr.heap.size, 0, none⟩ 1 1 (subC (lpS wst [60, -29]) (some ⟨b1, 0, none⟩) 2 none 0 none 0).toList (by simp [Act.eval, Act.put]) rfl (World.news_of_block (cs := (subC (lpS wst [60, -29]) (some ⟨b1, 0, none⟩) 2 none 0 none 0)) (t := 27) (fr := (0, 0)) (heap_alloc_new wr.drew _)) (by intro u hu; simp at hu; rcases hu with h | h | h | h | h | h | h | h | h | h <;> (rw [h]; rfl)) (by decide) (by unfold maxLen; omega) (by omega) (HTD.out.low ((Below.refl _ _).alloc (Nat.le_refl _) _)).below.size _ rfl ?_; intro gA cA wA ownA groA hatA hltA))
     all_goals
      have HPA : Hid (TS w (.slice (some ⟨gA, 0, none⟩) (L.length + 1) cA) (L ++ [⟨lpS wst [60, -29], some ⟨b1, 0, none⟩, 2⟩]) wA) := (HTD.out.low ((Below.refl _ _).alloc (Nat.le_refl _) _)).push (M := [⟨lpS wst [60, -29], some ⟨b1, 0, none⟩, 2⟩]) (by rw [rowC_one]; exact ownA) groA hatA (fun e he => by
       rw [List.mem_singleton] at he; subst he
       refine ⟨HII.out.below ((Below.refl _ _).alloc (Nat.le_refl _) _), fun h0 b hb => ?_⟩
       have e : b1 = b := by simpa [blockOf] using hb
       rw [← e]; exact HLD.out.ne b1 (by simp))
      have HLA : Hid (LR w (.slice (some ⟨gA, 0, none⟩) (L.length + 1) cA) g b0 b1 b2 wA) := (HLD.out.low ((Below.refl _ _).alloc (Nat.le_refl _) _)).grow groA hatA
      have HM2 : Hid (TrM wst (i + 1) (L ++ [(⟨lpS wst [60, -29], some ⟨b1, 0, none⟩, 2⟩ : El)])) := by
       rw [HI.out]
       have hh := HMP.out
       unfold TrM at *
       rw [List.map_append, hh, HI.out, List.append_assoc]; rfl
      clear ownA groA hatA hltA
      go_wp2_with fail
      go_roundw
      case rel => exact ⟨i + 1, _, _, by omega, by go_num, rfl, HM2.out, HPA.out, HLA.out⟩
      case measure => simp [intOf]; omega
    ·have HI : Hid (i = 2) := hi0
     have hi3 : i < 3 := by omega
     have c2 : wr.cell? ⟨g, i, none⟩ = some (.slice (some ⟨b2, 0, none⟩) 2 2) := by rw [cell_of_row _ _ _ _ _ _ HLR.out.row, hi0]; rfl
     clear hi0
     have HTD : Hid (TS w (.slice oa L.length oc) L wr.drew) := HTS.out.low ⟨rfl, rfl, rfl, Nat.le_refl _, fun _ _ => rfl⟩
     have HLD : Hid (LR w (.slice oa L.length oc) g b0 b1 b2 wr.drew) := HLR.out.low ⟨rfl, rfl, rfl, Nat.le_refl _, fun _ _ => rfl⟩
     have HII : Hid (IntsAt wr.drew (some ⟨b2, 0, none⟩) [63, -31]) := ints_new2 [63, -31] HLD.out.i2 (by decide)
     go_wp2_with fail
     go_region_law ((refine step_append_lies _ rfl (.tmp 35) (.tmp 47) 39 rfl w.heap.size 27 iS (.agg (subC ⟨0, 0, 0, 0, 0, [], R00⟩ none 0 none 0 none 0)) 10 128 undSubs12 hSa hSb hSc hSd rfl (by decide) (.slice oa L.length oc) L.length (rowC L) (by simp [Act.eval, Act.put]) (HTD.out.low ((Below.refl _ _).alloc (Nat.le_refl _) _)).own ⟨wr.heap.size, 0, none⟩ 1 1 (subC (lpS wst [63, -31]) (some ⟨b2, 0, none⟩) 2 none 0 none 0).toList (by simp [Act.eval, Act.put]) rfl (World.news_of_block (cs := (subC (lpS wst [63, -31]) (some ⟨b2, 0, none⟩) 2 none 0 none 0)) (t := 27) (fr := (0, 0)) (heap_alloc_new wr.drew _)) (by intro u hu; simp at hu; rcases hu with h | h | h | h | h | h | h | h | h | h <;> (rw [h]; rfl)) (by decide) (by unfold maxLen; omega) (by omega) (HTD.out.low ((Below.refl _ _).alloc (Nat.le_refl _) _)).below.size _ rfl ?_; intro gA cA wA ownA groA hatA hltA))
     all_goals
      have HPA : Hid (TS w (.slice (some ⟨gA, 0, none⟩) (L.length + 1) cA) (L ++ [⟨lpS wst [63, -31], some ⟨b2, 0, none⟩, 2⟩]) wA) := (HTD.out.low ((Below.refl _ _).alloc (Nat.le_refl _) _)).push (M := [⟨lpS wst [63, -31], some ⟨b2, 0, none⟩, 2⟩]) (by rw [rowC_one]; exact ownA) groA hatA (fun e he => by
       rw [List.mem_singleton] at he; subst he
       refine ⟨HII.out.below ((Below.refl _ _).alloc (Nat.le_refl _) _), fun h0 b hb => ?_⟩
       have e : b2 = b := by simpa [blockOf] using hb
       rw [← e]; exact HLD.out.ne b2 (by simp))
      have HLA : Hid (LR w (.slice (some ⟨gA, 0, none⟩) (L.length + 1) cA) g b0 b1 b2 wA) := (HLD.out.low ((Below.refl _ _).alloc (Nat.le_refl _) _)).grow groA hatA
      have HM2 : Hid (TrM wst (i + 1) (L ++ [(⟨lpS wst [63, -31], some ⟨b2, 0, none⟩, 2⟩ : El)])) := by
       rw [HI.out]
       have hh := HMP.out
       unfold TrM at *
       rw [List.map_append, hh, HI.out, List.append_assoc]; rfl
      clear ownA groA hatA hltA
      go_wp2_with fail
      go_roundw
      case rel => exact ⟨i + 1, _, _, by omega, by go_num, rfl, HM2.out, HPA.out, HLA.out⟩
      case measure => simp [intOf]; omega
    ·subst hi0
     go_wp2_with fail
     go_ret
     exact ⟨oa, oc, L, rfl, HTS.out, HMP.out⟩
end Go.Proofs.YthgpleelpeacjaaGreatDoor
