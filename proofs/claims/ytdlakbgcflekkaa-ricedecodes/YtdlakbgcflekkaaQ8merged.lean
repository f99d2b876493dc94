/- Own text: the walk of the program's merged. -/
import Derived.Test.YtdlakbgcflekkaaQ8plus
namespace Go.Proofs.Ytdlakbgcflekkaa
open Go.RowKit
set_option linter.unusedSimpArgs false
set_option linter.unusedVariables false

/-- A row of prices in memory: of each partition fifteen cells. -/
def PxB (w : World) (g M : Nat) (G : Nat → Nat → Nat) : Prop := ∃ cs : Array Value, w.heap[g]? = some (.cells cs 109 (0, 0)) ∧ ∀ i k, i < M → k < 15 → cs[i * 15 + k]? = some (.int .i64 (G i k : Int))
section
variable {w w' : World} {g M : Nat} {G : Nat → Nat → Nat}
theorem PxB.lt (h : PxB w g M G) : g < w.heap.size := by obtain ⟨cs, h1, _⟩ := h; exact lt_of_block h1
theorem PxB.below (h : PxB w g M G) (hb : Below w.heap.size w w') : PxB w' g M G := by
  obtain ⟨cs, h1, h2⟩ := h
  exact ⟨cs, by rw [hb.block _ (lt_of_block h1)]; exact h1, h2⟩
theorem PxB.less (h : PxB w g M G) (M' : Nat) (hm : M' ≤ M) : PxB w g M' G := by
  obtain ⟨cs, h1, h2⟩ := h
  exact ⟨cs, h1, fun i k hi hk => h2 i k (by omega) hk⟩
theorem PxB.congr (h : PxB w g M G) (G' : Nat → Nat → Nat) (hg : ∀ i k, i < M → k < 15 → G i k = G' i k) : PxB w g M G' := by
  obtain ⟨cs, h1, h2⟩ := h
  exact ⟨cs, h1, fun i k hi hk => by rw [← hg i k hi hk]; exact h2 i k hi hk⟩
theorem PxB.cell (h : PxB w g M G) (i k : Nat) (hi : i < M) (hk : k < 15) : w.cell? ⟨g, i * 15 + k, none⟩ = some (.int .i64 (G i k : Int)) := by
  obtain ⟨cs, h1, h2⟩ := h
  rw [cell_of_row _ _ _ _ _ _ h1]; exact h2 i k hi hk
theorem PxB.frozen (h : PxB w g M G) (o : Nat) : w.frozen? ⟨g, o, none⟩ = false := by
  obtain ⟨cs, h1, _⟩ := h
  simp [World.frozen?, h1]
theorem PxB.range (h : PxB w g M G) (i : Nat) (hi : i < M) : w.rangeAt g (i * 15) (pxA fun k => (G i k : Int)).toList := fun j v hv => by
  by_cases hj : j < 15
  · have := pxA_get (fun k => (G i k : Int)) j hj
    rw [Array.getElem?_toList, this] at hv
    rw [← hv]
    exact h.cell i j hi hj
  · rw [List.getElem?_eq_none (by rw [Array.length_toList, pxA_size]; omega)] at hv
    cases hv
theorem PxB.there (h : PxB w g M G) (i : Nat) (hi : i < M) : w.there g (i * 15) 15 := fun j hj => ⟨by rw [h.cell i j hi hj]; rfl, h.frozen _⟩
theorem PxB.set (h : PxB w g M G) (i k v : Nat) (hi : i < M) (hk : k < 15) : PxB (w.setCell ⟨g, i * 15 + k, none⟩ (.int .i64 (v : Int))) g M (fun i' k' => if i' = i ∧ k' = k then v else G i' k') := by
  obtain ⟨cs, h1, h2⟩ := h
  refine ⟨cs.setIfInBounds (i * 15 + k) (.int .i64 (v : Int)), block_setCell _ _ _ _ _ _ h1, fun i' k' hi' hk' => ?_⟩
  dsimp only
  rw [Array.getElem?_setIfInBounds]
  by_cases e : i' = i ∧ k' = k
  · obtain ⟨rfl, rfl⟩ := e
    have hlt : i' * 15 + k' < cs.size := by
      rcases Nat.lt_or_ge (i' * 15 + k') cs.size with h3 | h3
      · exact h3
      · have := h2 i' k' hi hk; rw [Array.getElem?_eq_none h3] at this; cases this
    rw [if_pos rfl, if_pos hlt, if_pos ⟨rfl, rfl⟩]
  · rw [if_neg (by omega), if_neg e]
    exact h2 i' k' hi' hk'
theorem PxB.other (h : PxB w g M G) (p : Addr) (u : Value) (hp : p.block ≠ g) : PxB (w.setCell p u) g M G := by
  obtain ⟨cs, h1, h2⟩ := h
  exact ⟨cs, by rw [Below.heap_setCell w p u g (fun e => hp e.symm)]; exact h1, h2⟩
end

theorem step_load_mid {P : Program} {ops : Array Oper} {o : Oper} {a : Act} {w : World} {K : Act → World → Prop} {Q : Exit → Act → World → Prop} {E : Prop} (hgd : o.guard = none) (ty : TypeId) (x : Operand) (ho : o.op = .load ty x)
    (b off : Nat) (hx : a.eval x = .pointer (some ⟨b, off, none⟩)) (cs : List Value) (d : TypeDesc) (hc : w.rangeAt b off cs)
    (hu : P.underlying ty = some d) (hd : d.isRow = true) (hi : (P.info? ty).map (·.size) = some cs.length)
    (h : K (a.put o.dst (.agg cs.toArray)) w) : if Region.wanted o (yielded ops a.tmps) = true then Oper.wp P o a w K Q else E := by
  have hw : Region.wanted o (yielded ops a.tmps) = true := by simp [Region.wanted, hgd]
  rw [if_pos hw]
  exact wp_load_mid ty x ho b off hx cs d hc hu hd hi h
theorem step_store_mid {P : Program} {ops : Array Oper} {o : Oper} {a : Act} {w : World} {K : Act → World → Prop} {Q : Exit → Act → World → Prop} {E : Prop} (hgd : o.guard = none) (ty : TypeId) (x y : Operand) (ho : o.op = .store ty x y)
    (b off : Nat) (cells : Array Value) (hx : a.eval x = .pointer (some ⟨b, off, none⟩)) (hy : a.eval y = .agg cells)
    (ht : w.there b off cells.size) (hi : (P.info? ty).map (·.size) = some cells.size) (h1 : cells.all (·.oneCell') = true)
    (h : K (a.put o.dst undef) (w.setCells b off cells.toList)) : if Region.wanted o (yielded ops a.tmps) = true then Oper.wp P o a w K Q else E := by
  have hw : Region.wanted o (yielded ops a.tmps) = true := by simp [Region.wanted, hgd]
  rw [if_pos hw]
  exact wp_store_mid ty x y ho b off cells hx hy ht hi h1 h
theorem setCells_block (g : Nat) : ∀ (vs : List Value) (o : Nat) (w : World) (cs : Array Value) (t : TypeId), w.heap[g]? = some (.cells cs t (0, 0)) → ∃ cs', (w.setCells g o vs).heap[g]? = some (.cells cs' t (0, 0)) ∧ (∀ j, j < vs.length → o + j < cs.size → cs'[o + j]? = vs[j]?) ∧ (∀ x, x < o ∨ o + vs.length ≤ x → cs'[x]? = cs[x]?)
  | [], o, w, cs, t, h => ⟨cs, h, fun j hj => absurd hj (Nat.not_lt_zero _), fun x _ => rfl⟩
  | v :: vs, o, w, cs, t, h => by
    obtain ⟨cs', h1, h2, h3⟩ := setCells_block g vs (o + 1) (w.setCell ⟨g, o, none⟩ v) (cs.setIfInBounds o v) t (block_setCell _ _ _ _ _ _ h)
    refine ⟨cs', h1, fun j hj hlt => ?_, fun x hx => ?_⟩
    · cases j with
      | zero =>
        rw [Nat.add_zero, h3 o (Or.inl (by omega)), Array.getElem?_setIfInBounds, if_pos rfl, if_pos (by simpa using hlt)]
        rfl
      | succ j =>
        have := h2 j (by simpa using hj) (by rw [Array.size_setIfInBounds]; omega)
        rw [show o + (j + 1) = o + 1 + j by omega, this]
        rfl
    · rw [h3 x (by simp at hx; omega), Array.getElem?_setIfInBounds, if_neg (by simp at hx; omega)]
theorem setCells_other (g : Nat) : ∀ (vs : List Value) (o : Nat) (w : World) (k : Nat), k ≠ g → (w.setCells g o vs).heap[k]? = w.heap[k]?
  | [], _, _, _, _ => rfl
  | v :: vs, o, w, k, h => by
    show ((w.setCell ⟨g, o, none⟩ v).setCells g (o + 1) vs).heap[k]? = _
    rw [setCells_other g vs (o + 1) _ k h, Below.heap_setCell w _ _ k h]
theorem stays_setCells (g : Nat) : ∀ (vs : List Value) (o : Nat) (w : World), Stays (fun b => b = g) w (w.setCells g o vs)
  | [], _, w => Stays.refl _ _
  | v :: vs, o, w => ((Stays.refl (fun b => b = g) w).setCell ⟨g, o, none⟩ v (Or.inl rfl)).trans (stays_setCells g vs (o + 1) _) (fun _ _ h => h)
theorem below_setCells (g : Nat) : ∀ (vs : List Value) (o : Nat) (w : World) {B : Nat} {a : World}, Below B a w → B ≤ g → Below B a (w.setCells g o vs)
  | [], _, _, _, _, h, _ => h
  | v :: vs, o, w, _, _, h, hb => below_setCells g vs (o + 1) _ (h.setCell hb v) hb
theorem PxB.setRow {w : World} {g M : Nat} {G : Nat → Nat → Nat} (h : PxB w g M G) (i : Nat) (hi : i < M) (f : Nat → Nat) : PxB (w.setCells g (i * 15) (pxA fun k => (f k : Int)).toList) g M (fun i' k' => if i' = i then f k' else G i' k') := by
  obtain ⟨cs, h1, h2⟩ := h
  obtain ⟨cs', h3, h4, h5⟩ := setCells_block g (pxA fun k => (f k : Int)).toList (i * 15) w cs 109 h1
  have hl : (pxA fun k => (f k : Int)).toList.length = 15 := by rw [Array.length_toList, pxA_size]
  refine ⟨cs', h3, fun i' k' hi' hk' => ?_⟩
  dsimp only
  by_cases e : i' = i
  · subst e
    have hlt : i' * 15 + k' < cs.size := by
      rcases Nat.lt_or_ge (i' * 15 + k') cs.size with h6 | h6
      · exact h6
      · have := h2 i' k' hi' hk'; rw [Array.getElem?_eq_none h6] at this; cases this
    rw [h4 k' (by omega) hlt, if_pos rfl, Array.getElem?_toList, pxA_get _ k' hk']
  · rw [if_neg e, h5 (i' * 15 + k') (by rw [hl]; omega)]
    exact h2 i' k' hi' hk'
set_option maxRecDepth 20000 in
set_option maxHeartbeats 3200000 in
theorem merged_spec (H : Nat) (g cap : Nat) (hc : 2 * H ≤ cap) (h16 : H ≤ 16) (hH : 0 < H) (G : Nat → Nat → Nat) (hG : ∀ i k, G i k ≤ 500000000) (w : World) (h : PxB w g (2 * H) G) :
    Calls Try.prog 53 #[.slice (some ⟨g, 0, none⟩) (2 * H) cap] w fun en w' => en = .returned (.slice (some ⟨g, 0, none⟩) H cap) ∧ PxB w' g H (fun i k => G (2 * i) k + G (2 * i + 1) k) ∧ Stays (fun b => b = g) w w' := by
  have hdv : (2 * (H : Int)).tdiv 2 = (H : Int) := by rw [Int.tdiv_eq_ediv_of_nonneg (by omega)]; omega
  have HP : Hid (PxB w g (2 * H) G) := h
  clear h
  go_enter Try.func53, Try.ntmps53
  go_wp2_with fail
  go_loopw [4, 12] (fun s4 s12 wr => ∃ i : Nat, i ≤ H ∧ s12 = .int .i64 (i : Int) ∧ PxB wr g (2 * H) (fun i' k' => if i' < i then G (2 * i') k' + G (2 * i' + 1) k' else G i' k') ∧ Stays (fun b => b = g) w wr) (fun _ s12 _ => H - (intOf s12).toNat)
  case atStart => exact ⟨0, Nat.zero_le _, rfl, by simpa using HP.out, Stays.refl _ _⟩
  case round =>
    clear HP
    obtain ⟨i, hi, rfl, hpx, hst⟩ := hrel
    have HP : Hid (PxB wr g (2 * H) (fun i' k' => if i' < i then G (2 * i') k' + G (2 * i' + 1) k' else G i' k')) := hpx
    have HS : Hid (Stays (fun b => b = g) w wr) := hst
    clear hpx hst
    by_cases hlt : i < H
    · have hi2 : 2 * (i : Int) < 2 * (H : Int) := by omega
      have hi3 : 2 * (i : Int) + 1 < 2 * (H : Int) := by omega
      have hi4 : (0 : Int) ≤ 2 * (i : Int) := by omega
      have hi5 : ¬ 2 * (i : Int) + 1 < 0 := by omega
      have hi6 : (0 : Int) ≤ 2 * (i : Int) + 1 := by omega
      have hw1 : IntKind.i64.wrap (2 * (i : Int)) = 2 * (i : Int) := by rw [IntKind.wrap_i64]; omega
      have hw2 : IntKind.i64.wrap (2 * (i : Int) + 1) = 2 * (i : Int) + 1 := by rw [IntKind.wrap_i64]; omega
      have hn1 : (2 * (i : Int)).toNat = 2 * i := by omega
      have hn2 : (2 * (i : Int) + 1).toNat = 2 * i + 1 := by omega
      have HPd : Hid (PxB wr.drew g (2 * H) (fun i' k' => if i' < i then G (2 * i') k' + G (2 * i' + 1) k' else G i' k')) := HP.out.below ⟨rfl, rfl, rfl, Nat.le_refl _, fun _ _ => rfl⟩
      obtain ⟨f0, hf0⟩ : ∃ f0 : Nat → Nat, f0 = fun k => G (2 * i) k := ⟨_, rfl⟩
      obtain ⟨f1, hf1⟩ : ∃ f1 : Nat → Nat, f1 = fun k => G (2 * i + 1) k := ⟨_, rfl⟩
      have HR0 : Hid (wr.drew.rangeAt g (2 * i * 15) (pxA fun k => (f0 k : Int)).toList) := by
        have hh := HPd.out.range (2 * i) (by omega)
        rw [hf0]
        have e : (pxA fun k => ((if 2 * i < i then G (2 * (2 * i)) k + G (2 * (2 * i) + 1) k else G (2 * i) k : Nat) : Int)) = pxA fun k => ((G (2 * i) k : Nat) : Int) := pxA_congr _ _ (fun k hk => by rw [if_neg (by omega)])
        rw [← e]; exact hh
      have HR1 : Hid (wr.drew.rangeAt g ((2 * i + 1) * 15) (pxA fun k => (f1 k : Int)).toList) := by
        have hh := HPd.out.range (2 * i + 1) (by omega)
        rw [hf1]
        have e : (pxA fun k => ((if 2 * i + 1 < i then G (2 * (2 * i + 1)) k + G (2 * (2 * i + 1) + 1) k else G (2 * i + 1) k : Nat) : Int)) = pxA fun k => ((G (2 * i + 1) k : Nat) : Int) := pxA_congr _ _ (fun k hk => by rw [if_neg (by omega)])
        rw [← e]; exact hh
      have KPL : Hid (∀ wx, Calls Try.prog 70 #[.agg (pxA fun k => (f0 k : Int)), .agg (pxA fun k => (f1 k : Int))] wx fun en w' => en = .returned (.agg (pxA fun k => ((f0 k + f1 k : Nat) : Int))) ∧ Below wx.heap.size wx w') := fun wx => plus_spec f0 f1 (fun k => by rw [hf0]; exact Nat.le_trans (hG _ _) (by decide)) (fun k => by rw [hf1]; exact Nat.le_trans (hG _ _) (by decide)) wx
      have HNX : Hid (∀ i' k', (if i' = i then f0 k' + f1 k' else if i' < i then G (2 * i') k' + G (2 * i' + 1) k' else G i' k') = (if i' < i + 1 then G (2 * i') k' + G (2 * i' + 1) k' else G i' k')) := fun i' k' => by
        by_cases e : i' = i
        · subst e; rw [if_pos rfl, if_pos (by omega), hf0, hf1]
        · by_cases e2 : i' < i
          · rw [if_neg e, if_pos e2, if_pos (by omega)]
          · rw [if_neg e, if_neg e2, if_neg (by omega)]
      clear hf0 hf1 HP
      go_wp2_with fail
      refine wp_region_held_drew (S := fun _ => True) (by kernel_rfl) trivial (fun hS => ?_)
      refine wpAnyH_take (i := 0) (v := .slice (some ⟨g, 0, none⟩) H cap) rfl (by kernel_rfl) (by kernel_rfl) (by kernel_rfl) (fun _ _ _ h => h) (Or.inl ⟨by rfl, fun w hSw => by go_simp⟩) trivial ?_
      simp only [Act.put, List.getElem_toArray, List.getElem_cons_succ, List.getElem_cons_zero, List.setIfInBounds_toArray, List.set_cons_zero, List.set_cons_succ]
      refine wpAnyH_take (i := 1) (v := .int .i64 (i : Int)) rfl (by kernel_rfl) (by kernel_rfl) (by kernel_rfl) (fun _ _ _ h => h) (Or.inl ⟨by rfl, fun w hSw => by go_simp⟩) trivial ?_
      simp only [Act.put, List.getElem_toArray, List.getElem_cons_succ, List.getElem_cons_zero, List.setIfInBounds_toArray, List.set_cons_zero, List.set_cons_succ]
      refine wpAnyH_take (i := 2) (v := .slice (some ⟨g, 0, none⟩) (2 * H) cap) rfl (by kernel_rfl) (by kernel_rfl) (by kernel_rfl) (fun _ _ _ h => h) (Or.inl ⟨by rfl, fun w hSw => by go_simp⟩) trivial ?_
      simp only [Act.put, List.getElem_toArray, List.getElem_cons_succ, List.getElem_cons_zero, List.setIfInBounds_toArray, List.set_cons_zero, List.set_cons_succ]
      refine wpAnyH_take (i := 3) (v := .int .i64 (i : Int)) rfl (by kernel_rfl) (by kernel_rfl) (by kernel_rfl) (fun _ _ _ h => h) (Or.inl ⟨by rfl, fun w hSw => by go_simp⟩) trivial ?_
      simp only [Act.put, List.getElem_toArray, List.getElem_cons_succ, List.getElem_cons_zero, List.setIfInBounds_toArray, List.set_cons_zero, List.set_cons_succ]
      refine wpAnyH_take (i := 4) (v := .int .i64 (2 * (i : Int))) rfl (by kernel_rfl) (by kernel_rfl) (by kernel_rfl) (fun _ _ _ h => h) (Or.inl ⟨by rfl, fun w hSw => by go_simp⟩) trivial ?_
      simp only [Act.put, List.getElem_toArray, List.getElem_cons_succ, List.getElem_cons_zero, List.setIfInBounds_toArray, List.set_cons_zero, List.set_cons_succ]
      refine wpAnyH_take (i := 5) (v := .pointer (some ⟨g, 2 * i * 15, none⟩)) rfl (by kernel_rfl) (by kernel_rfl) (by kernel_rfl) (fun _ _ _ h => h) (Or.inl ⟨by rfl, fun w hSw => by go_simp⟩) trivial ?_
      simp only [Act.put, List.getElem_toArray, List.getElem_cons_succ, List.getElem_cons_zero, List.setIfInBounds_toArray, List.set_cons_zero, List.set_cons_succ]
      refine wpAnyH_take (i := 7) (v := .slice (some ⟨g, 0, none⟩) (2 * H) cap) rfl (by kernel_rfl) (by kernel_rfl) (by kernel_rfl) (fun _ _ _ h => h) (Or.inl ⟨by rfl, fun w hSw => by go_simp⟩) trivial ?_
      simp only [Act.put, List.getElem_toArray, List.getElem_cons_succ, List.getElem_cons_zero, List.setIfInBounds_toArray, List.set_cons_zero, List.set_cons_succ]
      refine wpAnyH_take (i := 8) (v := .int .i64 (i : Int)) rfl (by kernel_rfl) (by kernel_rfl) (by kernel_rfl) (fun _ _ _ h => h) (Or.inl ⟨by rfl, fun w hSw => by go_simp⟩) trivial ?_
      simp only [Act.put, List.getElem_toArray, List.getElem_cons_succ, List.getElem_cons_zero, List.setIfInBounds_toArray, List.set_cons_zero, List.set_cons_succ]
      refine wpAnyH_take (i := 9) (v := .int .i64 (2 * (i : Int))) rfl (by kernel_rfl) (by kernel_rfl) (by kernel_rfl) (fun _ _ _ h => h) (Or.inl ⟨by rfl, fun w hSw => by go_simp⟩) trivial ?_
      simp only [Act.put, List.getElem_toArray, List.getElem_cons_succ, List.getElem_cons_zero, List.setIfInBounds_toArray, List.set_cons_zero, List.set_cons_succ]
      refine wpAnyH_take (i := 10) (v := .int .i64 (2 * (i : Int) + 1)) rfl (by kernel_rfl) (by kernel_rfl) (by kernel_rfl) (fun _ _ _ h => h) (Or.inl ⟨by rfl, fun w hSw => by go_simp⟩) trivial ?_
      simp only [Act.put, List.getElem_toArray, List.getElem_cons_succ, List.getElem_cons_zero, List.setIfInBounds_toArray, List.set_cons_zero, List.set_cons_succ]
      refine wpAnyH_take (i := 11) (v := .pointer (some ⟨g, (2 * i + 1) * 15, none⟩)) rfl (by kernel_rfl) (by kernel_rfl) (by kernel_rfl) (fun _ _ _ h => h) (Or.inl ⟨by rfl, fun w hSw => by go_simp⟩) trivial ?_
      simp only [Act.put, List.getElem_toArray, List.getElem_cons_succ, List.getElem_cons_zero, List.setIfInBounds_toArray, List.set_cons_zero, List.set_cons_succ]
      refine wpAnyH_ready (rs := [6, 12]) (by kernel_rfl) (by simp) ?_
      refine AllReadyH.cons rfl (fun K hK => ?_) ?_
      · refine step_load_mid rfl 109 (.tmp 20) rfl g (2 * i * 15) rfl (pxA fun k => (f0 k : Int)).toList _ (HR0.out) Try.underlying109 rfl (by rw [Array.length_toList, pxA_size]; exact info_prices) ?_
        rw [Array.toArray_toList]
        refine hK.out _ _ trivial (fun hS6 => ?_)
        clear hK K
        simp only [Act.put, List.getElem_toArray, List.getElem_cons_succ, List.getElem_cons_zero, List.setIfInBounds_toArray, List.set_cons_zero, List.set_cons_succ]
        refine wpAnyH_ready (rs := [12]) (by kernel_rfl) (by simp) ?_
        refine AllReadyH.cons rfl (fun K hK => ?_) AllReadyH.nil
        refine step_load_mid rfl 109 (.tmp 26) rfl g ((2 * i + 1) * 15) rfl (pxA fun k => (f1 k : Int)).toList _ (HR1.out) Try.underlying109 rfl (by rw [Array.length_toList, pxA_size]; exact info_prices) ?_
        rw [Array.toArray_toList]
        refine hK.out _ _ trivial (fun hS12 => ?_)
        clear hK K
        simp only [Act.put, List.getElem_toArray, List.getElem_cons_succ, List.getElem_cons_zero, List.setIfInBounds_toArray, List.set_cons_zero, List.set_cons_succ]
        refine wpAnyH_ready (rs := [13]) (by kernel_rfl) (by simp) ?_
        refine AllReadyH.cons rfl (fun K hK => ?_) AllReadyH.nil
        go_simp
        refine (KPL.out wr.drew).mono ?_
        rintro e w5 ⟨rfl, hb5⟩
        have HP5 : Hid (PxB w5 g (2 * H) (fun i' k' => if i' < i then G (2 * i') k' + G (2 * i' + 1) k' else G i' k')) := (HPd.out).below hb5
        have HS5 : Hid (Stays (fun b => b = g) w w5) := HS.out.drew.trans (Stays.of_below hb5 _) (fun _ _ h => h)
        refine hK.out _ _ trivial (fun hS5 => ?_)
        clear hK K hb5
        try simp only [Act.put, List.getElem_toArray, List.getElem_cons_succ, List.getElem_cons_zero, List.setIfInBounds_toArray, List.set_cons_zero, List.set_cons_succ]
        refine wpAnyH_take (i := 14) (v := .pointer (some ⟨g, i * 15, none⟩)) rfl (by kernel_rfl) (by kernel_rfl) (by kernel_rfl) (fun _ _ _ h => h) (Or.inl ⟨by rfl, fun w hSw => by go_simp⟩) trivial ?_
        simp only [Act.put, List.getElem_toArray, List.getElem_cons_succ, List.getElem_cons_zero, List.setIfInBounds_toArray, List.set_cons_zero, List.set_cons_succ]
        refine wpAnyH_ready (rs := [15]) (by kernel_rfl) (by simp) ?_
        refine AllReadyH.cons rfl (fun K hK => ?_) AllReadyH.nil
        refine step_store_mid rfl 109 (.tmp 29) (.tmp 28) rfl g (i * 15) (pxA fun k => ((f0 k + f1 k : Nat) : Int)) rfl rfl (by rw [pxA_size]; exact HP5.out.there i (by omega)) (by rw [pxA_size]; exact info_prices) (pxA_all _) ?_
        refine hK.out _ _ trivial (fun hS6 => ?_)
        refine wpAnyH_done (by kernel_rfl) ?_ _
        clear hK K
        go_wp2_with fail
        go_roundw
        case rel =>
          refine ⟨i + 1, by omega, by go_num, ?_, HS5.out.trans (stays_setCells g _ _ w5) (fun _ _ h => h)⟩
          have hh := HP5.out.setRow i (by omega) (fun k => f0 k + f1 k)
          exact hh.congr _ (fun i' k' h1 h2 => HNX.out i' k')
        case measure => simp [intOf]; omega

      · refine AllReadyH.cons rfl (fun K hK => ?_) AllReadyH.nil
        refine step_load_mid rfl 109 (.tmp 26) rfl g ((2 * i + 1) * 15) rfl (pxA fun k => (f1 k : Int)).toList _ (HR1.out) Try.underlying109 rfl (by rw [Array.length_toList, pxA_size]; exact info_prices) ?_
        rw [Array.toArray_toList]
        refine hK.out _ _ trivial (fun hS12 => ?_)
        clear hK K
        simp only [Act.put, List.getElem_toArray, List.getElem_cons_succ, List.getElem_cons_zero, List.setIfInBounds_toArray, List.set_cons_zero, List.set_cons_succ]
        refine wpAnyH_ready (rs := [6]) (by kernel_rfl) (by simp) ?_
        refine AllReadyH.cons rfl (fun K hK => ?_) AllReadyH.nil
        refine step_load_mid rfl 109 (.tmp 20) rfl g (2 * i * 15) rfl (pxA fun k => (f0 k : Int)).toList _ (HR0.out) Try.underlying109 rfl (by rw [Array.length_toList, pxA_size]; exact info_prices) ?_
        rw [Array.toArray_toList]
        refine hK.out _ _ trivial (fun hS6 => ?_)
        clear hK K
        simp only [Act.put, List.getElem_toArray, List.getElem_cons_succ, List.getElem_cons_zero, List.setIfInBounds_toArray, List.set_cons_zero, List.set_cons_succ]
        refine wpAnyH_ready (rs := [13]) (by kernel_rfl) (by simp) ?_
        refine AllReadyH.cons rfl (fun K hK => ?_) AllReadyH.nil
        go_simp
        refine (KPL.out wr.drew).mono ?_
        rintro e w5 ⟨rfl, hb5⟩
        have HP5 : Hid (PxB w5 g (2 * H) (fun i' k' => if i' < i then G (2 * i') k' + G (2 * i' + 1) k' else G i' k')) := (HPd.out).below hb5
        have HS5 : Hid (Stays (fun b => b = g) w w5) := HS.out.drew.trans (Stays.of_below hb5 _) (fun _ _ h => h)
        refine hK.out _ _ trivial (fun hS5 => ?_)
        clear hK K hb5
        try simp only [Act.put, List.getElem_toArray, List.getElem_cons_succ, List.getElem_cons_zero, List.setIfInBounds_toArray, List.set_cons_zero, List.set_cons_succ]
        refine wpAnyH_take (i := 14) (v := .pointer (some ⟨g, i * 15, none⟩)) rfl (by kernel_rfl) (by kernel_rfl) (by kernel_rfl) (fun _ _ _ h => h) (Or.inl ⟨by rfl, fun w hSw => by go_simp⟩) trivial ?_
        simp only [Act.put, List.getElem_toArray, List.getElem_cons_succ, List.getElem_cons_zero, List.setIfInBounds_toArray, List.set_cons_zero, List.set_cons_succ]
        refine wpAnyH_ready (rs := [15]) (by kernel_rfl) (by simp) ?_
        refine AllReadyH.cons rfl (fun K hK => ?_) AllReadyH.nil
        refine step_store_mid rfl 109 (.tmp 29) (.tmp 28) rfl g (i * 15) (pxA fun k => ((f0 k + f1 k : Nat) : Int)) rfl rfl (by rw [pxA_size]; exact HP5.out.there i (by omega)) (by rw [pxA_size]; exact info_prices) (pxA_all _) ?_
        refine hK.out _ _ trivial (fun hS6 => ?_)
        refine wpAnyH_done (by kernel_rfl) ?_ _
        clear hK K
        go_wp2_with fail
        go_roundw
        case rel =>
          refine ⟨i + 1, by omega, by go_num, ?_, HS5.out.trans (stays_setCells g _ _ w5) (fun _ _ h => h)⟩
          have hh := HP5.out.setRow i (by omega) (fun k => f0 k + f1 k)
          exact hh.congr _ (fun i' k' h1 h2 => HNX.out i' k')
        case measure => simp [intOf]; omega

    · have hiH : i = H := by omega
      subst hiH
      go_wp2_with fail
      go_ret
      exact ⟨rfl, (HP.out.less i (by omega)).congr _ (fun i' k' h1 h2 => by rw [if_pos h1]), HS.out⟩

end Go.Proofs.Ytdlakbgcflekkaa
