/- Own text: the walk of the document's Info. -/
import Derived.Test.YtfmpiidnemhijaaDoorQ13mem
import Derived.Test.YtfmpiidnemhijaaDoorRefwrite
import Derived.Deep.Cut
namespace Go.Proofs.YtfmpiidnemhijaaDoor
open Go.RowKit
set_option linter.unusedSimpArgs false
set_option linter.unusedVariables false

def offK : Nat → Nat
  | 0 => 0
  | k + 1 => offK k + widK k
def valK (s : ByteArray) (k : Nat) : Nat := bitsAt s (offK k) (widK k)
def valsK (s : ByteArray) (k : Nat) : List Value := (List.range k).map fun j => .int .i64 (valK s j : Int)
theorem valsK_succ (s : ByteArray) (k : Nat) : valsK s (k + 1) = valsK s k ++ [.int .i64 (valK s k : Int)] := by
  unfold valsK
  rw [List.range_succ, List.map_append]
  rfl
theorem valsK_len (s : ByteArray) (k : Nat) : (valsK s k).length = k := by simp [valsK]
theorem valK_lt (s : ByteArray) (k : Nat) : valK s k < 68719476736 := by
  have h := bitsAt_lt s (offK k) (widK k)
  have hp : (2 : Nat) ^ widK k ≤ 2 ^ 36 := Nat.pow_le_pow_right (by decide) (widK_le k).2
  have h36 : (2 : Nat) ^ 36 = 68719476736 := by decide
  unfold valK
  omega
theorem offK_le : ∀ k, k < 8 → offK k + widK k ≤ 144
  | 0, _ => by decide
  | 1, _ => by decide
  | 2, _ => by decide
  | 3, _ => by decide
  | 4, _ => by decide
  | 5, _ => by decide
  | 6, _ => by decide
  | 7, _ => by decide
theorem wid_get (k : Nat) (hk : k < 8) : widA[k]? = some (.int .i64 (widK k : Int)) := by
  match k, hk with
  | 0, _ => rfl
  | 1, _ => rfl
  | 2, _ => rfl
  | 3, _ => rfl
  | 4, _ => rfl
  | 5, _ => rfl
  | 6, _ => rfl
  | 7, _ => rfl
theorem info3 : (Tryd.prog.info? 3).map (fun i => (i.zero, i.size, i.bytes)) = some (some (.int .i64 0), 1, 8) := by kernel_rfl
/-- Info's boxes: the answer's, the reader's, the widths' row, the numbers' row. -/
structure IQ (w0 wx : World) (s : ByteArray) (k : Nat) (v : Value) : Prop where
  rr : Rr wx (w0.heap.size + 1) s (offK k)
  wd : wx.heap[w0.heap.size + 2]? = some (.cells widA 3 (0, 0))
  rs : wx.heap[w0.heap.size]? = some (.cells (stiC Sti0) 23 (0, 0))
  own : wx.ownsRow (w0.heap.size + 3) 3 1 v k (valsK s k)
  bl : Below w0.heap.size w0 wx
section
variable {w0 wx w' : World} {s : ByteArray} {k : Nat} {v v' : Value}
theorem own_stays1 {w w' : World} {base e z : Nat} {v : Value} {n x : Nat} {xs : List Value} (h : w.ownsRow base e z v n xs) (hs : Stays (only x) w w') (hx : x < base) : w'.ownsRow base e z v n xs := by
  refine h.kept (row := some x) ⟨hs.os, hs.tape, hs.output, hs.size, fun k hk hne => hs.block k hk (fun q => hne (by rw [q]))⟩ ?_
  cases hv : v.ownBlock with
  | none => exact .inl rfl
  | some k =>
    right
    intro q
    have := (h.lt k hv).1
    cases q
    omega
theorem IQ.low (h : IQ w0 wx s k v) (hb : Below wx.heap.size wx w') : IQ w0 w' s k v :=
  ⟨by unfold Rr; rw [hb.block _ h.rr.lt]; exact h.rr, by rw [hb.block _ (lt_of_block h.wd)]; exact h.wd, by rw [hb.block _ (lt_of_block h.rs)]; exact h.rs, owns_below h.own hb, h.bl.trans (hb.mono h.bl.size)⟩
/-- The reader has gone on. -/
structure IG (w0 wx : World) (s : ByteArray) (k : Nat) (v : Value) : Prop where
  rr : Rr wx (w0.heap.size + 1) s (offK (k + 1))
  wd : wx.heap[w0.heap.size + 2]? = some (.cells widA 3 (0, 0))
  rs : wx.heap[w0.heap.size]? = some (.cells (stiC Sti0) 23 (0, 0))
  own : wx.ownsRow (w0.heap.size + 3) 3 1 v k (valsK s k)
  bl : Below w0.heap.size w0 wx
theorem IQ.get (h : IQ w0 wx s k v) (hr : Rr w' (w0.heap.size + 1) s (offK k + widK k)) (hs : Stays (only (w0.heap.size + 1)) wx w') : IG w0 w' s k v :=
  ⟨hr, by rw [hs.block _ (lt_of_block h.wd) (fun q => by have : w0.heap.size + 2 = w0.heap.size + 1 := q; omega)]; exact h.wd, by rw [hs.block _ (lt_of_block h.rs) (fun q => by have : w0.heap.size = w0.heap.size + 1 := q; omega)]; exact h.rs, own_stays1 h.own hs (by omega), h.bl.trans (only_below hs h.bl.size (by omega))⟩
theorem IG.low (h : IG w0 wx s k v) (hb : Below wx.heap.size wx w') : IG w0 w' s k v :=
  ⟨by unfold Rr; rw [hb.block _ h.rr.lt]; exact h.rr, by rw [hb.block _ (lt_of_block h.wd)]; exact h.wd, by rw [hb.block _ (lt_of_block h.rs)]; exact h.rs, owns_below h.own hb, h.bl.trans (hb.mono h.bl.size)⟩
theorem IG.push (h : IG w0 wx s k v) (ho : w'.ownsRow (w0.heap.size + 3) 3 1 v' (k + 1) (valsK s k ++ [.int .i64 (valK s k : Int)])) (hg : wx.grownBy w' v.ownBlock) : IQ w0 w' s (k + 1) v' := by
  have hne : ∀ k, k < w0.heap.size + 3 → some k ≠ v.ownBlock := fun k hk e => by have := (h.own.lt k e.symm).1; omega
  exact ⟨by unfold Rr; rw [hg.block _ h.rr.lt (hne _ (by omega))]; exact h.rr, by rw [hg.block _ (lt_of_block h.wd) (hne _ (by omega))]; exact h.wd, by rw [hg.block _ (lt_of_block h.rs) (hne _ (by omega))]; exact h.rs, by rw [valsK_succ]; exact ho, grown_to hg h.bl h.bl.size (fun k e => by have := (h.own.lt k e).1; omega)⟩
theorem IQ.shape (h : IQ w0 wx s k v) : ∃ ao cap, v = .slice ao k cap := by
  obtain ⟨ao, cap, e, _⟩ := owns_shape h.own
  exact ⟨ao, cap, e⟩
end

set_option maxRecDepth 20000 in
set_option maxHeartbeats 3200000 in
theorem xinfo_any (s : ByteArray) (hs : s.size ≤ 140737488351232) (w : World) :
    Calls Tryd.prog 9 #[.string s] w fun e w' => e = .returned (.tuple #[stiV (infR s), .int .i64 (infE s)]) ∧ Below w.heap.size w w' := by
  have hB0 : Below w.heap.size w (w.alloc (.cells (stiC Sti0) 23)) := (Below.refl _ _).alloc (Nat.le_refl _) _
  have HZ : Hid ((w.alloc (.cells (stiC Sti0) 23)).heap[w.heap.size]? = some (.cells (stiC Sti0) 23 (0, 0)) ∧ Below w.heap.size w (w.alloc (.cells (stiC Sti0) 23))) := ⟨heap_alloc_new _ _, hB0⟩
  clear hB0
  by_cases h34 : s.size = 34
  · have hb : ((s.size : Int) != 34) = false := by rw [bne_eq_false_iff_eq]; omega
    have HQ0 : Hid (IQ w (((w.alloc (.cells (stiC Sti0) 23)).alloc (.cells #[.string s, .int .i64 0] 55)).alloc (.cells widA 3)) s 0 noS) := by
      have e1 : ((w.alloc (.cells (stiC Sti0) 23)).alloc (.cells #[.string s, .int .i64 0] 55)).heap[w.heap.size + 1]? = some (.cells #[.string s, .int .i64 0] 55 (0, 0)) := by
        have hh := heap_alloc_new (w.alloc (.cells (stiC Sti0) 23)) (.cells #[.string s, .int .i64 0] 55)
        rw [show (w.alloc (.cells (stiC Sti0) 23)).heap.size = w.heap.size + 1 from by simp] at hh
        exact hh
      have e2 : (((w.alloc (.cells (stiC Sti0) 23)).alloc (.cells #[.string s, .int .i64 0] 55)).alloc (.cells widA 3)).heap[w.heap.size + 2]? = some (.cells widA 3 (0, 0)) := by
        have hh := heap_alloc_new ((w.alloc (.cells (stiC Sti0) 23)).alloc (.cells #[.string s, .int .i64 0] 55)) (.cells widA 3)
        rw [show ((w.alloc (.cells (stiC Sti0) 23)).alloc (.cells #[.string s, .int .i64 0] 55)).heap.size = w.heap.size + 2 from by simp] at hh
        exact hh
      refine ⟨?_, e2, ?_, World.ownsRow_nil _ _ _ _, ((HZ.out.2.alloc (by simp) _).alloc (by simp; omega) _)⟩
      · unfold Rr
        rw [Below.heap_alloc _ _ _ (by simp)]
        exact e1
      · rw [Below.heap_alloc _ _ _ (by simp; omega), Below.heap_alloc _ _ _ (by simp)]
        exact HZ.out.1
    have KG : Hid (∀ k wx v, k < 8 → IQ w wx s k v → Calls Tryd.prog 22 #[.pointer (some ⟨w.heap.size + 1, 0, none⟩), .int .i64 (widK k : Int)] wx fun e w' => e = .returned (.tuple #[.int .u64 (valK s k : Int), .int .i64 0]) ∧ IG w w' s k v) := fun k wx v hk h =>
      (refget_ok _ s (by omega) (offK k) (widK k) (by have := (widK_le k).2; omega) (by have := offK_le k hk; omega) wx h.rr).mono fun e w' ⟨a, b, c⟩ => ⟨a, h.get b c⟩
    have hsl : ∀ wx, (Instr.slice 9 (.string s) (some (.int .i64 18)) none none).run Tryd.prog wx = .ok (.string (s.extract 18 s.size)) wx := slice_from s 18 (by omega)
    have HE : Hid (infE s = fltE (infS s)) := by unfold infE; exact if_pos h34
    have HR : Hid (infR s = if infE s = 0 then infS s else Sti0) := rfl
    have HS : Hid (infS s = ⟨valK s 0, valK s 1, valK s 2, valK s 3, valK s 4, (valK s 5 : Int) + 1, (valK s 6 : Int) + 1, valK s 7, s.extract 18 s.size⟩) := rfl
    obtain ⟨iK, hK0, hK1, hK2, hK3⟩ := info_parts5 info3
    have HIK : Hid (Tryd.prog.info? 3 = some iK ∧ iK.zero = some (.int .i64 0) ∧ iK.size = 1 ∧ iK.bytes = 8) := ⟨hK0, hK1, hK2, hK3⟩
    clear hK0 hK1 hK2 hK3 HZ h34
    go_enter Tryd.func9, Tryd.ntmps9
    go_wp2_with fail
    generalize hwa : World.alloc (World.alloc (World.alloc w _) _) _ = wa
    have HQA : Hid (IQ w wa s 0 noS) := by rw [← hwa]; exact HQ0.out
    clear hwa HQ0
    go_loopw [5, 7] (fun g i wr => ∃ k : Nat, k ≤ 8 ∧ i = .int .i64 (k : Int) ∧ IQ w wr s k g) (fun _ i _ => 8 - (intOf i).toNat)
    case atStart => exact ⟨0, by decide, rfl, HQA.out⟩
    case round =>
      clear HQA
      obtain ⟨k, hk, rfl, hq⟩ := hrel
      obtain ⟨ao, cap, rfl⟩ := hq.shape
      have HQ : Hid (IQ w wr s k (.slice ao k cap)) := hq
      clear hq
      by_cases hlt : k < 8
      · have hc : wr.cell? ⟨w.heap.size + 2, k, none⟩ = some (.int .i64 (widK k : Int)) := by rw [cell_of_row _ _ _ _ _ _ HQ.out.wd]; exact wid_get k hlt
        have kg := KG.out k wr _ hlt HQ.out
        have hv := valK_lt s k
        have HVS : Hid (valK s k = valK s k) := rfl
        clear HQ KG
        generalize hvk : valK s k = v at *
        have HVK : Hid (valK s k = v) := hvk
        generalize widK k = wd at *
        clear hvk HVS
        go_wp2_with fail
        refine kg.mono ?_
        rintro e w2 ⟨rfl, h2⟩
        have HG2 : Hid (IG w (w2.alloc (.cells #[.int .i64 (v : Int)] 3)) s k (.slice ao k cap)) := h2.low ((Below.refl _ _).alloc (Nat.le_refl _) _)
        have HNW : Hid (∀ j u, [Value.int .i64 (v : Int)][j]? = some u → (w2.alloc (.cells #[.int .i64 (v : Int)] 3)).cell? ((⟨w2.heap.size, 0, none⟩ : Addr).add j) = some u) := one_new w2 _ 3
        clear h2 kg hc
        go_wp2_with (at_builtin; go_loud (refine wpList_append_row _ rfl (.tmp 34) (.tmp 37) 56 rfl (w.heap.size + 3) 3 iK (.int .i64 0) 1 8 Tryd.underlying56 HIK.out.1 HIK.out.2.1 HIK.out.2.2.1 HIK.out.2.2.2 rfl (by decide) (.slice ao k cap) k _ rfl HG2.out.own ⟨w2.heap.size, 0, none⟩ 1 1 [.int .i64 (v : Int)] rfl rfl HNW.out (by simp [Value.oneCell']) (by simp only [maxLen]; omega) (by omega) (lt_of_block HG2.out.wd) ?_); intro v6 w6 ho6 hg6 hx6)
        have HQN : Hid (IQ w w6 s (k + 1) v6) := HG2.out.push (by rw [HVK.out]; exact ho6.out) hg6.out
        clear HG2 HNW HIK ho6 hg6 hx6 HVK
        go_roundw
        case rel => exact ⟨k + 1, by omega, by go_num, HQN.out⟩
        case measure => simp [intOf]; omega
      · have hk8 : k = 8 := by omega
        subst hk8
        obtain ⟨g, rfl⟩ : ∃ g, ao = some ⟨g, 0, none⟩ := by
          obtain ⟨ao2, cap2, e2, _, _, h0, h1⟩ := owns_shape HQ.out.own
          cases e2
          cases ao with
          | none => have := (h0 rfl).1; omega
          | some x => exact ⟨x.block, by rw [(h1 x rfl).1]⟩
        have HCW : Hid (wr.cell? ⟨g, 0, none⟩ = some (.int .i64 (valK s 0 : Int)) ∧ wr.cell? ⟨g, 1, none⟩ = some (.int .i64 (valK s 1 : Int)) ∧ wr.cell? ⟨g, 2, none⟩ = some (.int .i64 (valK s 2 : Int)) ∧ wr.cell? ⟨g, 3, none⟩ = some (.int .i64 (valK s 3 : Int)) ∧ wr.cell? ⟨g, 4, none⟩ = some (.int .i64 (valK s 4 : Int)) ∧ wr.cell? ⟨g, 5, none⟩ = some (.int .i64 (valK s 5 : Int)) ∧ wr.cell? ⟨g, 6, none⟩ = some (.int .i64 (valK s 6 : Int)) ∧ wr.cell? ⟨g, 7, none⟩ = some (.int .i64 (valK s 7 : Int))) := ⟨HQ.out.own.cellAt 0 (by decide), HQ.out.own.cellAt 1 (by decide), HQ.out.own.cellAt 2 (by decide), HQ.out.own.cellAt 3 (by decide), HQ.out.own.cellAt 4 (by decide), HQ.out.own.cellAt 5 (by decide), HQ.out.own.cellAt 6 (by decide), HQ.out.own.cellAt 7 (by decide)⟩
        have HGL : Hid (g < wr.heap.size) := lt_cell HCW.out.1
        have hv0 := valK_lt s 0
        have hv1 := valK_lt s 1
        have hv2 := valK_lt s 2
        have hv3 := valK_lt s 3
        have hv4 := valK_lt s 4
        have hv5 := valK_lt s 5
        have hv6 := valK_lt s 6
        have hv7 := valK_lt s 7
        have hcs : (s.extract 18 s.size).size ≤ 140737488351232 := by have := ext_le s 18 s.size; omega
        generalize valK s 0 = v0 at *
        generalize valK s 1 = v1 at *
        generalize valK s 2 = v2 at *
        generalize valK s 3 = v3 at *
        generalize valK s 4 = v4 at *
        generalize valK s 5 = v5 at *
        generalize valK s 6 = v6 at *
        generalize valK s 7 = v7 at *
        generalize s.extract 18 s.size = D at *
        clear KG HIK
        have HRS : Hid (wr.heap[w.heap.size]? = some (.cells (stiC Sti0) 23 (0, 0)) ∧ Below w.heap.size w wr) := ⟨HQ.out.rs, HQ.out.bl⟩
        clear HQ
        go_upto_region 11 with fail
        have HC : Hid (∀ wx : World, Hid (wx.cell? ⟨g, 0, none⟩ = some (.int .i64 (v0 : Int)) ∧ wx.cell? ⟨g, 1, none⟩ = some (.int .i64 (v1 : Int)) ∧ wx.cell? ⟨g, 2, none⟩ = some (.int .i64 (v2 : Int)) ∧ wx.cell? ⟨g, 3, none⟩ = some (.int .i64 (v3 : Int)) ∧ wx.cell? ⟨g, 4, none⟩ = some (.int .i64 (v4 : Int)) ∧ wx.cell? ⟨g, 5, none⟩ = some (.int .i64 (v5 : Int)) ∧ wx.cell? ⟨g, 6, none⟩ = some (.int .i64 (v6 : Int)) ∧ wx.cell? ⟨g, 7, none⟩ = some (.int .i64 (v7 : Int))) → wx.cell? ⟨g, 0, none⟩ = some (.int .i64 (v0 : Int)) ∧ wx.cell? ⟨g, 1, none⟩ = some (.int .i64 (v1 : Int)) ∧ wx.cell? ⟨g, 2, none⟩ = some (.int .i64 (v2 : Int)) ∧ wx.cell? ⟨g, 3, none⟩ = some (.int .i64 (v3 : Int)) ∧ wx.cell? ⟨g, 4, none⟩ = some (.int .i64 (v4 : Int)) ∧ wx.cell? ⟨g, 5, none⟩ = some (.int .i64 (v5 : Int)) ∧ wx.cell? ⟨g, 6, none⟩ = some (.int .i64 (v6 : Int)) ∧ wx.cell? ⟨g, 7, none⟩ = some (.int .i64 (v7 : Int))) := fun wx h => h.out
        refine wp_region_held_drew (S := fun wx => Hid (wx.cell? ⟨g, 0, none⟩ = some (.int .i64 (v0 : Int)) ∧ wx.cell? ⟨g, 1, none⟩ = some (.int .i64 (v1 : Int)) ∧ wx.cell? ⟨g, 2, none⟩ = some (.int .i64 (v2 : Int)) ∧ wx.cell? ⟨g, 3, none⟩ = some (.int .i64 (v3 : Int)) ∧ wx.cell? ⟨g, 4, none⟩ = some (.int .i64 (v4 : Int)) ∧ wx.cell? ⟨g, 5, none⟩ = some (.int .i64 (v5 : Int)) ∧ wx.cell? ⟨g, 6, none⟩ = some (.int .i64 (v6 : Int)) ∧ wx.cell? ⟨g, 7, none⟩ = some (.int .i64 (v7 : Int)))) (by kernel_rfl) (show Hid _ from HCW.out) (fun hS => ?_)
        refine wpAnyH_take (i := 0) (v := .slice (some ⟨g, 0, none⟩) 8 cap) rfl (by kernel_rfl) (by kernel_rfl) (by kernel_rfl) (fun _ _ _ h => h) (Or.inl ⟨by rfl, fun w hSw => by go_simp⟩) hS ?_
        simp only [Act.put, List.getElem_toArray, List.getElem_cons_succ, List.getElem_cons_zero, List.setIfInBounds_toArray, List.set_cons_zero, List.set_cons_succ]
        refine wpAnyH_take (i := 1) (v := .pointer (some ⟨g, 0, none⟩)) rfl (by kernel_rfl) (by kernel_rfl) (by kernel_rfl) (fun _ _ _ h => h) (Or.inl ⟨by rfl, fun w hSw => by go_simp⟩) hS ?_
        simp only [Act.put, List.getElem_toArray, List.getElem_cons_succ, List.getElem_cons_zero, List.setIfInBounds_toArray, List.set_cons_zero, List.set_cons_succ]
        refine wpAnyH_take (i := 2) (v := .int .i64 (v0 : Int)) rfl (by kernel_rfl) (by kernel_rfl) (by kernel_rfl) (fun _ _ _ h => h) (Or.inl ⟨by rfl, fun w hSw => by obtain ⟨c0, c1, c2, c3, c4, c5, c6, c7⟩ := HC.out _ hSw; go_simp⟩) hS ?_
        simp only [Act.put, List.getElem_toArray, List.getElem_cons_succ, List.getElem_cons_zero, List.setIfInBounds_toArray, List.set_cons_zero, List.set_cons_succ]
        refine wpAnyH_take (i := 3) (v := .slice (some ⟨g, 0, none⟩) 8 cap) rfl (by kernel_rfl) (by kernel_rfl) (by kernel_rfl) (fun _ _ _ h => h) (Or.inl ⟨by rfl, fun w hSw => by go_simp⟩) hS ?_
        simp only [Act.put, List.getElem_toArray, List.getElem_cons_succ, List.getElem_cons_zero, List.setIfInBounds_toArray, List.set_cons_zero, List.set_cons_succ]
        refine wpAnyH_take (i := 4) (v := .pointer (some ⟨g, 1, none⟩)) rfl (by kernel_rfl) (by kernel_rfl) (by kernel_rfl) (fun _ _ _ h => h) (Or.inl ⟨by rfl, fun w hSw => by go_simp⟩) hS ?_
        simp only [Act.put, List.getElem_toArray, List.getElem_cons_succ, List.getElem_cons_zero, List.setIfInBounds_toArray, List.set_cons_zero, List.set_cons_succ]
        refine wpAnyH_take (i := 5) (v := .int .i64 (v1 : Int)) rfl (by kernel_rfl) (by kernel_rfl) (by kernel_rfl) (fun _ _ _ h => h) (Or.inl ⟨by rfl, fun w hSw => by obtain ⟨c0, c1, c2, c3, c4, c5, c6, c7⟩ := HC.out _ hSw; go_simp⟩) hS ?_
        simp only [Act.put, List.getElem_toArray, List.getElem_cons_succ, List.getElem_cons_zero, List.setIfInBounds_toArray, List.set_cons_zero, List.set_cons_succ]
        refine wpAnyH_take (i := 6) (v := .slice (some ⟨g, 0, none⟩) 8 cap) rfl (by kernel_rfl) (by kernel_rfl) (by kernel_rfl) (fun _ _ _ h => h) (Or.inl ⟨by rfl, fun w hSw => by go_simp⟩) hS ?_
        simp only [Act.put, List.getElem_toArray, List.getElem_cons_succ, List.getElem_cons_zero, List.setIfInBounds_toArray, List.set_cons_zero, List.set_cons_succ]
        refine wpAnyH_take (i := 7) (v := .pointer (some ⟨g, 2, none⟩)) rfl (by kernel_rfl) (by kernel_rfl) (by kernel_rfl) (fun _ _ _ h => h) (Or.inl ⟨by rfl, fun w hSw => by go_simp⟩) hS ?_
        simp only [Act.put, List.getElem_toArray, List.getElem_cons_succ, List.getElem_cons_zero, List.setIfInBounds_toArray, List.set_cons_zero, List.set_cons_succ]
        refine wpAnyH_take (i := 8) (v := .int .i64 (v2 : Int)) rfl (by kernel_rfl) (by kernel_rfl) (by kernel_rfl) (fun _ _ _ h => h) (Or.inl ⟨by rfl, fun w hSw => by obtain ⟨c0, c1, c2, c3, c4, c5, c6, c7⟩ := HC.out _ hSw; go_simp⟩) hS ?_
        simp only [Act.put, List.getElem_toArray, List.getElem_cons_succ, List.getElem_cons_zero, List.setIfInBounds_toArray, List.set_cons_zero, List.set_cons_succ]
        refine wpAnyH_take (i := 9) (v := .slice (some ⟨g, 0, none⟩) 8 cap) rfl (by kernel_rfl) (by kernel_rfl) (by kernel_rfl) (fun _ _ _ h => h) (Or.inl ⟨by rfl, fun w hSw => by go_simp⟩) hS ?_
        simp only [Act.put, List.getElem_toArray, List.getElem_cons_succ, List.getElem_cons_zero, List.setIfInBounds_toArray, List.set_cons_zero, List.set_cons_succ]
        refine wpAnyH_take (i := 10) (v := .pointer (some ⟨g, 3, none⟩)) rfl (by kernel_rfl) (by kernel_rfl) (by kernel_rfl) (fun _ _ _ h => h) (Or.inl ⟨by rfl, fun w hSw => by go_simp⟩) hS ?_
        simp only [Act.put, List.getElem_toArray, List.getElem_cons_succ, List.getElem_cons_zero, List.setIfInBounds_toArray, List.set_cons_zero, List.set_cons_succ]
        refine wpAnyH_take (i := 11) (v := .int .i64 (v3 : Int)) rfl (by kernel_rfl) (by kernel_rfl) (by kernel_rfl) (fun _ _ _ h => h) (Or.inl ⟨by rfl, fun w hSw => by obtain ⟨c0, c1, c2, c3, c4, c5, c6, c7⟩ := HC.out _ hSw; go_simp⟩) hS ?_
        simp only [Act.put, List.getElem_toArray, List.getElem_cons_succ, List.getElem_cons_zero, List.setIfInBounds_toArray, List.set_cons_zero, List.set_cons_succ]
        refine wpAnyH_take (i := 12) (v := .slice (some ⟨g, 0, none⟩) 8 cap) rfl (by kernel_rfl) (by kernel_rfl) (by kernel_rfl) (fun _ _ _ h => h) (Or.inl ⟨by rfl, fun w hSw => by go_simp⟩) hS ?_
        simp only [Act.put, List.getElem_toArray, List.getElem_cons_succ, List.getElem_cons_zero, List.setIfInBounds_toArray, List.set_cons_zero, List.set_cons_succ]
        refine wpAnyH_take (i := 13) (v := .pointer (some ⟨g, 4, none⟩)) rfl (by kernel_rfl) (by kernel_rfl) (by kernel_rfl) (fun _ _ _ h => h) (Or.inl ⟨by rfl, fun w hSw => by go_simp⟩) hS ?_
        simp only [Act.put, List.getElem_toArray, List.getElem_cons_succ, List.getElem_cons_zero, List.setIfInBounds_toArray, List.set_cons_zero, List.set_cons_succ]
        refine wpAnyH_take (i := 14) (v := .int .i64 (v4 : Int)) rfl (by kernel_rfl) (by kernel_rfl) (by kernel_rfl) (fun _ _ _ h => h) (Or.inl ⟨by rfl, fun w hSw => by obtain ⟨c0, c1, c2, c3, c4, c5, c6, c7⟩ := HC.out _ hSw; go_simp⟩) hS ?_
        simp only [Act.put, List.getElem_toArray, List.getElem_cons_succ, List.getElem_cons_zero, List.setIfInBounds_toArray, List.set_cons_zero, List.set_cons_succ]
        refine wpAnyH_take (i := 15) (v := .slice (some ⟨g, 0, none⟩) 8 cap) rfl (by kernel_rfl) (by kernel_rfl) (by kernel_rfl) (fun _ _ _ h => h) (Or.inl ⟨by rfl, fun w hSw => by go_simp⟩) hS ?_
        simp only [Act.put, List.getElem_toArray, List.getElem_cons_succ, List.getElem_cons_zero, List.setIfInBounds_toArray, List.set_cons_zero, List.set_cons_succ]
        refine wpAnyH_take (i := 16) (v := .pointer (some ⟨g, 5, none⟩)) rfl (by kernel_rfl) (by kernel_rfl) (by kernel_rfl) (fun _ _ _ h => h) (Or.inl ⟨by rfl, fun w hSw => by go_simp⟩) hS ?_
        simp only [Act.put, List.getElem_toArray, List.getElem_cons_succ, List.getElem_cons_zero, List.setIfInBounds_toArray, List.set_cons_zero, List.set_cons_succ]
        refine wpAnyH_take (i := 17) (v := .int .i64 (v5 : Int)) rfl (by kernel_rfl) (by kernel_rfl) (by kernel_rfl) (fun _ _ _ h => h) (Or.inl ⟨by rfl, fun w hSw => by obtain ⟨c0, c1, c2, c3, c4, c5, c6, c7⟩ := HC.out _ hSw; go_simp⟩) hS ?_
        simp only [Act.put, List.getElem_toArray, List.getElem_cons_succ, List.getElem_cons_zero, List.setIfInBounds_toArray, List.set_cons_zero, List.set_cons_succ]
        refine wpAnyH_take (i := 18) (v := .int .i64 ((v5 : Int) + 1)) rfl (by kernel_rfl) (by kernel_rfl) (by kernel_rfl) (fun _ _ _ h => h) (Or.inl ⟨by rfl, fun w hSw => by go_simp; rw [IntKind.wrap_i64]; omega⟩) hS ?_
        simp only [Act.put, List.getElem_toArray, List.getElem_cons_succ, List.getElem_cons_zero, List.setIfInBounds_toArray, List.set_cons_zero, List.set_cons_succ]
        refine wpAnyH_take (i := 19) (v := .slice (some ⟨g, 0, none⟩) 8 cap) rfl (by kernel_rfl) (by kernel_rfl) (by kernel_rfl) (fun _ _ _ h => h) (Or.inl ⟨by rfl, fun w hSw => by go_simp⟩) hS ?_
        simp only [Act.put, List.getElem_toArray, List.getElem_cons_succ, List.getElem_cons_zero, List.setIfInBounds_toArray, List.set_cons_zero, List.set_cons_succ]
        refine wpAnyH_take (i := 20) (v := .pointer (some ⟨g, 6, none⟩)) rfl (by kernel_rfl) (by kernel_rfl) (by kernel_rfl) (fun _ _ _ h => h) (Or.inl ⟨by rfl, fun w hSw => by go_simp⟩) hS ?_
        simp only [Act.put, List.getElem_toArray, List.getElem_cons_succ, List.getElem_cons_zero, List.setIfInBounds_toArray, List.set_cons_zero, List.set_cons_succ]
        refine wpAnyH_take (i := 21) (v := .int .i64 (v6 : Int)) rfl (by kernel_rfl) (by kernel_rfl) (by kernel_rfl) (fun _ _ _ h => h) (Or.inl ⟨by rfl, fun w hSw => by obtain ⟨c0, c1, c2, c3, c4, c5, c6, c7⟩ := HC.out _ hSw; go_simp⟩) hS ?_
        simp only [Act.put, List.getElem_toArray, List.getElem_cons_succ, List.getElem_cons_zero, List.setIfInBounds_toArray, List.set_cons_zero, List.set_cons_succ]
        refine wpAnyH_take (i := 22) (v := .int .i64 ((v6 : Int) + 1)) rfl (by kernel_rfl) (by kernel_rfl) (by kernel_rfl) (fun _ _ _ h => h) (Or.inl ⟨by rfl, fun w hSw => by go_simp; rw [IntKind.wrap_i64]; omega⟩) hS ?_
        simp only [Act.put, List.getElem_toArray, List.getElem_cons_succ, List.getElem_cons_zero, List.setIfInBounds_toArray, List.set_cons_zero, List.set_cons_succ]
        refine wpAnyH_take (i := 23) (v := .slice (some ⟨g, 0, none⟩) 8 cap) rfl (by kernel_rfl) (by kernel_rfl) (by kernel_rfl) (fun _ _ _ h => h) (Or.inl ⟨by rfl, fun w hSw => by go_simp⟩) hS ?_
        simp only [Act.put, List.getElem_toArray, List.getElem_cons_succ, List.getElem_cons_zero, List.setIfInBounds_toArray, List.set_cons_zero, List.set_cons_succ]
        refine wpAnyH_take (i := 24) (v := .pointer (some ⟨g, 7, none⟩)) rfl (by kernel_rfl) (by kernel_rfl) (by kernel_rfl) (fun _ _ _ h => h) (Or.inl ⟨by rfl, fun w hSw => by go_simp⟩) hS ?_
        simp only [Act.put, List.getElem_toArray, List.getElem_cons_succ, List.getElem_cons_zero, List.setIfInBounds_toArray, List.set_cons_zero, List.set_cons_succ]
        refine wpAnyH_take (i := 25) (v := .int .i64 (v7 : Int)) rfl (by kernel_rfl) (by kernel_rfl) (by kernel_rfl) (fun _ _ _ h => h) (Or.inl ⟨by rfl, fun w hSw => by obtain ⟨c0, c1, c2, c3, c4, c5, c6, c7⟩ := HC.out _ hSw; go_simp⟩) hS ?_
        simp only [Act.put, List.getElem_toArray, List.getElem_cons_succ, List.getElem_cons_zero, List.setIfInBounds_toArray, List.set_cons_zero, List.set_cons_succ]
        refine wpAnyH_take (i := 26) (v := .string s) rfl (by kernel_rfl) (by kernel_rfl) (by kernel_rfl) (fun _ _ _ h => h) (Or.inl ⟨by rfl, fun w hSw => by go_simp⟩) hS ?_
        simp only [Act.put, List.getElem_toArray, List.getElem_cons_succ, List.getElem_cons_zero, List.setIfInBounds_toArray, List.set_cons_zero, List.set_cons_succ]
        refine wpAnyH_take (i := 27) (v := .string D) rfl (by kernel_rfl) (by kernel_rfl) (by kernel_rfl) (fun _ _ _ h => h) (Or.inl ⟨by rfl, fun w hSw => by go_simp⟩) hS ?_
        simp only [Act.put, List.getElem_toArray, List.getElem_cons_succ, List.getElem_cons_zero, List.setIfInBounds_toArray, List.set_cons_zero, List.set_cons_succ]
        refine wpAnyH_take (i := 28) (v := .agg #[.int .i64 (v0 : Int), .int .i64 (v1 : Int), .int .i64 (v2 : Int), .int .i64 (v3 : Int), .int .i64 (v4 : Int), .int .i64 ((v5 : Int) + 1), .int .i64 ((v6 : Int) + 1), .int .i64 (v7 : Int), .string D]) rfl (by kernel_rfl) (by kernel_rfl) (by kernel_rfl) (fun _ _ _ h => h) (Or.inl ⟨by rfl, fun w hSw => by go_simp⟩) hS ?_
        simp only [Act.put, List.getElem_toArray, List.getElem_cons_succ, List.getElem_cons_zero, List.setIfInBounds_toArray, List.set_cons_zero, List.set_cons_succ]
        refine wpAnyH_ready (rs := [29]) (by kernel_rfl) (by simp) ?_
        refine AllReadyH.cons rfl (fun K hK => ?_) AllReadyH.nil
        go_simp
        generalize hwy : World.drew (World.alloc wr _) = wy
        have HY : Hid (wy.heap[wr.heap.size]? = some (.cells (stiC Sti0) 23 (0, 0)) ∧ wy.heap[w.heap.size]? = some (.cells (stiC Sti0) 23 (0, 0)) ∧ Below w.heap.size w wy ∧ (wy.cell? ⟨g, 0, none⟩ = some (.int .i64 (v0 : Int)) ∧ wy.cell? ⟨g, 1, none⟩ = some (.int .i64 (v1 : Int)) ∧ wy.cell? ⟨g, 2, none⟩ = some (.int .i64 (v2 : Int)) ∧ wy.cell? ⟨g, 3, none⟩ = some (.int .i64 (v3 : Int)) ∧ wy.cell? ⟨g, 4, none⟩ = some (.int .i64 (v4 : Int)) ∧ wy.cell? ⟨g, 5, none⟩ = some (.int .i64 (v5 : Int)) ∧ wy.cell? ⟨g, 6, none⟩ = some (.int .i64 (v6 : Int)) ∧ wy.cell? ⟨g, 7, none⟩ = some (.int .i64 (v7 : Int)))) := by
          have hb : Below wr.heap.size wr wy := by rw [← hwy]; exact ⟨rfl, rfl, rfl, by simp [World.drew], fun k hk => ((Below.refl wr.heap.size wr).alloc (Nat.le_refl _) _).block k hk⟩
          refine ⟨by rw [← hwy]; exact heap_alloc_new _ _, by rw [hb.block _ (lt_of_block HRS.out.1)]; exact HRS.out.1, HRS.out.2.trans (hb.mono HRS.out.2.size), ?_⟩
          have hk : ∀ o, wy.cell? ⟨g, o, none⟩ = wr.cell? ⟨g, o, none⟩ := fun o => World.cell?_of_block (w := wr) (hb.block g HGL.out)
          simp only [hk]
          exact hS.out
        have HML : Hid (w.heap.size < wr.heap.size ∧ g ≠ wr.heap.size) := ⟨lt_of_block HRS.out.1, by have := HGL.out; omega⟩
        refine hK.out _ _ (show Hid _ from HY.out.2.2.2) (fun hS2 => ?_)
        clear hK K hS hwy HRS
        try simp only [Act.put, List.getElem_toArray, List.getElem_cons_succ, List.getElem_cons_zero, List.setIfInBounds_toArray, List.set_cons_zero, List.set_cons_succ]
        generalize wr.heap.size = m at *
        have a0 : wy.cell? ⟨m, 0, none⟩ = some (.int .i64 0) := by rw [cell_of_row _ _ _ _ _ _ HY.out.1]; rfl
        have f0 := fz_of HY.out.1 0
        have a1 : wy.cell? ⟨m, 1, none⟩ = some (.int .i64 0) := by rw [cell_of_row _ _ _ _ _ _ HY.out.1]; rfl
        have f1 := fz_of HY.out.1 1
        have a2 : wy.cell? ⟨m, 2, none⟩ = some (.int .i64 0) := by rw [cell_of_row _ _ _ _ _ _ HY.out.1]; rfl
        have f2 := fz_of HY.out.1 2
        have a3 : wy.cell? ⟨m, 3, none⟩ = some (.int .i64 0) := by rw [cell_of_row _ _ _ _ _ _ HY.out.1]; rfl
        have f3 := fz_of HY.out.1 3
        have a4 : wy.cell? ⟨m, 4, none⟩ = some (.int .i64 0) := by rw [cell_of_row _ _ _ _ _ _ HY.out.1]; rfl
        have f4 := fz_of HY.out.1 4
        have a5 : wy.cell? ⟨m, 5, none⟩ = some (.int .i64 0) := by rw [cell_of_row _ _ _ _ _ _ HY.out.1]; rfl
        have f5 := fz_of HY.out.1 5
        have a6 : wy.cell? ⟨m, 6, none⟩ = some (.int .i64 0) := by rw [cell_of_row _ _ _ _ _ _ HY.out.1]; rfl
        have f6 := fz_of HY.out.1 6
        have a7 : wy.cell? ⟨m, 7, none⟩ = some (.int .i64 0) := by rw [cell_of_row _ _ _ _ _ _ HY.out.1]; rfl
        have f7 := fz_of HY.out.1 7
        have a8 : wy.cell? ⟨m, 8, none⟩ = some (.string ⟨#[]⟩) := by rw [cell_of_row _ _ _ _ _ _ HY.out.1]; rfl
        have f8 := fz_of HY.out.1 8
        refine wpAnyH_ready (rs := [30]) (by kernel_rfl) (by simp) ?_
        refine AllReadyH.cons rfl (fun K hK => ?_) AllReadyH.nil
        go_simp
        generalize hwz : World.setCell _ _ _ = wz
        obtain ⟨I, hI⟩ : ∃ I : Sti, I = ⟨(v0 : Int), (v1 : Int), (v2 : Int), (v3 : Int), (v4 : Int), (v5 : Int) + 1, (v6 : Int) + 1, (v7 : Int), D⟩ := ⟨_, rfl⟩
        have HZ2 : Hid (wz.heap[m]? = some (.cells (stiC I) 23 (0, 0)) ∧ wz.heap[w.heap.size]? = some (.cells (stiC Sti0) 23 (0, 0)) ∧ Below w.heap.size w wz ∧ (wz.cell? ⟨g, 0, none⟩ = some (.int .i64 (v0 : Int)) ∧ wz.cell? ⟨g, 1, none⟩ = some (.int .i64 (v1 : Int)) ∧ wz.cell? ⟨g, 2, none⟩ = some (.int .i64 (v2 : Int)) ∧ wz.cell? ⟨g, 3, none⟩ = some (.int .i64 (v3 : Int)) ∧ wz.cell? ⟨g, 4, none⟩ = some (.int .i64 (v4 : Int)) ∧ wz.cell? ⟨g, 5, none⟩ = some (.int .i64 (v5 : Int)) ∧ wz.cell? ⟨g, 6, none⟩ = some (.int .i64 (v6 : Int)) ∧ wz.cell? ⟨g, 7, none⟩ = some (.int .i64 (v7 : Int)))) := by
          have hne := HML.out.1
          have hng := HML.out.2
          have hk : ∀ b, b ≠ m → wz.heap[b]? = wy.heap[b]? := fun b hb => by
            rw [← hwz]
            rw [Below.heap_setCell _ _ _ _ hb, Below.heap_setCell _ _ _ _ hb, Below.heap_setCell _ _ _ _ hb, Below.heap_setCell _ _ _ _ hb, Below.heap_setCell _ _ _ _ hb, Below.heap_setCell _ _ _ _ hb, Below.heap_setCell _ _ _ _ hb, Below.heap_setCell _ _ _ _ hb, Below.heap_setCell _ _ _ _ hb]
          refine ⟨?_, by rw [hk _ (by omega)]; exact HY.out.2.1, by rw [← hwz]; exact set9b _ _ _ _ _ _ _ _ _ _ _ _ (by omega) HY.out.2.2.1, ?_⟩
          · rw [← hwz, hI]
            exact set9 _ _ _ _ _ _ _ _ _ _ _ _ _ rfl HY.out.1
          · have hc : ∀ o, wz.cell? ⟨g, o, none⟩ = wy.cell? ⟨g, o, none⟩ := fun o => World.cell?_of_block (w := wy) (hk g hng)
            simp only [hc]
            exact HY.out.2.2.2
        have HIS : Hid (infS s = I) := HS.out.trans hI.symm
        refine hK.out _ _ (show Hid _ from HZ2.out.2.2.2) (fun hS3 => ?_)
        clear hK K hwz HY hS2 hI HS a0 f0 a1 f1 a2 f2 a3 f3 a4 f4 a5 f5 a6 f6 a7 f7 a8 f8
        refine wpAnyH_done (by kernel_rfl) ?_ _
        have HX : Hid (wz.heap[w.heap.size]? = some (.cells (stiC Sti0) 23 (0, 0)) ∧ Below w.heap.size w wz) := ⟨HZ2.out.2.1, HZ2.out.2.2.1⟩
        obtain ⟨i0, i1, i2, i3, i4, i5, i6, i7, i8⟩ := sti_cells HZ2.out.1
        have a0 : wz.cell? ⟨w.heap.size, 0, none⟩ = some (.int .i64 0) := by rw [cell_of_row _ _ _ _ _ _ HX.out.1]; rfl
        have f0 := fz_of HX.out.1 0
        have a1 : wz.cell? ⟨w.heap.size, 1, none⟩ = some (.int .i64 0) := by rw [cell_of_row _ _ _ _ _ _ HX.out.1]; rfl
        have f1 := fz_of HX.out.1 1
        have a2 : wz.cell? ⟨w.heap.size, 2, none⟩ = some (.int .i64 0) := by rw [cell_of_row _ _ _ _ _ _ HX.out.1]; rfl
        have f2 := fz_of HX.out.1 2
        have a3 : wz.cell? ⟨w.heap.size, 3, none⟩ = some (.int .i64 0) := by rw [cell_of_row _ _ _ _ _ _ HX.out.1]; rfl
        have f3 := fz_of HX.out.1 3
        have a4 : wz.cell? ⟨w.heap.size, 4, none⟩ = some (.int .i64 0) := by rw [cell_of_row _ _ _ _ _ _ HX.out.1]; rfl
        have f4 := fz_of HX.out.1 4
        have a5 : wz.cell? ⟨w.heap.size, 5, none⟩ = some (.int .i64 0) := by rw [cell_of_row _ _ _ _ _ _ HX.out.1]; rfl
        have f5 := fz_of HX.out.1 5
        have a6 : wz.cell? ⟨w.heap.size, 6, none⟩ = some (.int .i64 0) := by rw [cell_of_row _ _ _ _ _ _ HX.out.1]; rfl
        have f6 := fz_of HX.out.1 6
        have a7 : wz.cell? ⟨w.heap.size, 7, none⟩ = some (.int .i64 0) := by rw [cell_of_row _ _ _ _ _ _ HX.out.1]; rfl
        have f7 := fz_of HX.out.1 7
        have a8 : wz.cell? ⟨w.heap.size, 8, none⟩ = some (.string ⟨#[]⟩) := by rw [cell_of_row _ _ _ _ _ _ HX.out.1]; rfl
        have f8 := fz_of HX.out.1 8
        have hne := HML.out.1
        have HEI : Hid (infE s = fltE I) := HE.out.trans (by rw [HIS.out])
        have HRI : Hid (infR s = if fltE I = 0 then I else Sti0) := HR.out.trans (by rw [HEI.out, HIS.out])
        clear hS3 HZ2 HE HR HIS HCW HGL HC hsl HML hv0 hv1 hv2 hv3 hv4 hv5 hv6 hv7 hcs
        by_cases h1 : I.mn < 16 ∨ I.mx < I.mn ∨ I.rt = 0
        · have hF : fltE I = 2 := if_pos h1
          have HEF : Hid (infE s = 2) := HEI.out.trans (hF)
          have HRF : Hid (infR s = Sti0) := HRI.out.trans (if_neg (by rw [show fltE I = 2 from hF]; decide))
          have h1 : I.mn < 16 ∨ (16 ≤ I.mn ∧ I.mx < I.mn) ∨ (16 ≤ I.mn ∧ I.mn ≤ I.mx ∧ (I.rt == 0) = true) := by
            by_cases q : I.mn < 16
            · exact .inl q
            · by_cases q2 : I.mx < I.mn
              · exact .inr (.inl ⟨by omega, q2⟩)
              · exact .inr (.inr ⟨by omega, by omega, by rw [beq_iff_eq]; omega⟩)
          clear hF HEI HRI
          rcases h1 with h | ⟨h, h'⟩ | ⟨h, h', h''⟩
          all_goals
            go_wp2_with fail
            generalize hwf : World.setCell _ _ _ = wf
            have HF : Hid (wf.heap[w.heap.size]? = some (.cells (stiC Sti0) 23 (0, 0)) ∧ Below w.heap.size w wf) := by
              rw [← hwf]
              exact ⟨set9 _ _ _ _ _ _ _ _ _ _ _ _ _ rfl HX.out.1, set9b _ _ _ _ _ _ _ _ _ _ _ _ (Nat.le_refl _) HX.out.2⟩
            refine bodyPost_ret (v := .tuple #[stiV (infR s), .int .i64 (infE s)]) ?_ rfl ⟨rfl, HF.out.2⟩
            rw [results_two rfl]
            have hld := run_loadVar_row (P := Tryd.prog) wf w.heap.size 23 23 _ (0, 0) _ HF.out.1 Tryd.underlying23 rfl info_sti
            rw [HEF.out, HRF.out]
            simp [asAddr, Result.andThen, hld]
        · have hF1 : fltE I = if I.wd < 4 ∨ 24 < I.wd ∨ 4608 < I.mx ∨ 655350 < I.rt then 3 else if 1048576 < I.sm then 5 else 0 := if_neg h1
          have g1 : 16 ≤ I.mn := by omega
          have g2 : I.mn ≤ I.mx := by omega
          have g3 : (I.rt == 0) = false := by rw [beq_eq_false_iff_ne]; omega
          clear h1
          by_cases h2 : I.wd < 4 ∨ 24 < I.wd ∨ 4608 < I.mx ∨ 655350 < I.rt
          · have hF : fltE I = 3 := hF1.trans (if_pos h2)
            have HEF : Hid (infE s = 3) := HEI.out.trans (hF)
            have HRF : Hid (infR s = Sti0) := HRI.out.trans (if_neg (by rw [show fltE I = 3 from hF]; decide))
            have h2 : I.wd < 4 ∨ (4 ≤ I.wd ∧ 24 < I.wd) ∨ (4 ≤ I.wd ∧ I.wd ≤ 24 ∧ 4608 < I.mx) ∨ (4 ≤ I.wd ∧ I.wd ≤ 24 ∧ I.mx ≤ 4608 ∧ 655350 < I.rt) := by omega
            clear hF hF1 HEI HRI
            rcases h2 with h | ⟨h, h'⟩ | ⟨h, h', h''⟩ | ⟨h, h', h'', h3⟩
            all_goals
              go_wp2_with fail
              generalize hwf : World.setCell _ _ _ = wf
              have HF : Hid (wf.heap[w.heap.size]? = some (.cells (stiC Sti0) 23 (0, 0)) ∧ Below w.heap.size w wf) := by
                rw [← hwf]
                exact ⟨set9 _ _ _ _ _ _ _ _ _ _ _ _ _ rfl HX.out.1, set9b _ _ _ _ _ _ _ _ _ _ _ _ (Nat.le_refl _) HX.out.2⟩
              refine bodyPost_ret (v := .tuple #[stiV (infR s), .int .i64 (infE s)]) ?_ rfl ⟨rfl, HF.out.2⟩
              rw [results_two rfl]
              have hld := run_loadVar_row (P := Tryd.prog) wf w.heap.size 23 23 _ (0, 0) _ HF.out.1 Tryd.underlying23 rfl info_sti
              rw [HEF.out, HRF.out]
              simp [asAddr, Result.andThen, hld]
          · have hF2 : fltE I = if 1048576 < I.sm then 5 else 0 := hF1.trans (if_neg h2)
            have b1 : 4 ≤ I.wd := by omega
            have b2 : I.wd ≤ 24 := by omega
            have b3 : I.mx ≤ 4608 := by omega
            have b4 : I.rt ≤ 655350 := by omega
            clear h2 hF1
            by_cases h3 : 1048576 < I.sm
            · have hF : fltE I = 5 := hF2.trans (if_pos h3)
              have HEF : Hid (infE s = 5) := HEI.out.trans (hF)
              have HRF : Hid (infR s = Sti0) := HRI.out.trans (if_neg (by rw [show fltE I = 5 from hF]; decide))
              clear hF hF2 HEI HRI
              go_wp2_with fail
              generalize hwf : World.setCell _ _ _ = wf
              have HF : Hid (wf.heap[w.heap.size]? = some (.cells (stiC Sti0) 23 (0, 0)) ∧ Below w.heap.size w wf) := by
                rw [← hwf]
                exact ⟨set9 _ _ _ _ _ _ _ _ _ _ _ _ _ rfl HX.out.1, set9b _ _ _ _ _ _ _ _ _ _ _ _ (Nat.le_refl _) HX.out.2⟩
              refine bodyPost_ret (v := .tuple #[stiV (infR s), .int .i64 (infE s)]) ?_ rfl ⟨rfl, HF.out.2⟩
              rw [results_two rfl]
              have hld := run_loadVar_row (P := Tryd.prog) wf w.heap.size 23 23 _ (0, 0) _ HF.out.1 Tryd.underlying23 rfl info_sti
              rw [HEF.out, HRF.out]
              simp [asAddr, Result.andThen, hld]
            · have hF : fltE I = 0 := hF2.trans (if_neg h3)
              have HEF : Hid (infE s = 0) := HEI.out.trans hF
              have HRF : Hid (infR s = I) := HRI.out.trans (if_pos hF)
              clear hF hF2 HEI HRI
              go_wp2_with fail
              generalize hwf : World.setCell _ _ _ = wf
              have HF : Hid (wf.heap[w.heap.size]? = some (.cells (stiC I) 23 (0, 0)) ∧ Below w.heap.size w wf) := by
                rw [← hwf]
                exact ⟨set9 _ _ _ _ _ _ _ _ _ _ _ _ _ rfl HX.out.1, set9b _ _ _ _ _ _ _ _ _ _ _ _ (Nat.le_refl _) HX.out.2⟩
              refine bodyPost_ret (v := .tuple #[stiV (infR s), .int .i64 (infE s)]) ?_ rfl ⟨rfl, HF.out.2⟩
              rw [results_two rfl]
              have hld := run_loadVar_row (P := Tryd.prog) wf w.heap.size 23 23 _ (0, 0) _ HF.out.1 Tryd.underlying23 rfl info_sti
              rw [HEF.out, HRF.out]
              simp [asAddr, Result.andThen, hld]
  · have HE : Hid (infE s = 2) := by unfold infE; exact if_neg h34
    have HR : Hid (infR s = Sti0) := by unfold infR; rw [HE.out]; rfl
    have hb : ((s.size : Int) != 34) = true := by rw [bne_iff_ne]; omega
    clear h34
    go_enter Tryd.func9, Tryd.ntmps9
    go_wp2_with fail
    refine bodyPost_ret (v := .tuple #[stiV (infR s), .int .i64 (infE s)]) ?_ rfl ⟨rfl, HZ.out.2⟩
    rw [results_two rfl]
    have hld := run_loadVar_row (P := Tryd.prog) (w.alloc (.cells (stiC Sti0) 23)) w.heap.size 23 23 _ (0, 0) _ HZ.out.1 Tryd.underlying23 rfl info_sti
    rw [HE.out, HR.out]
    simp [asAddr, Result.andThen, hld]

end Go.Proofs.YtfmpiidnemhijaaDoor
