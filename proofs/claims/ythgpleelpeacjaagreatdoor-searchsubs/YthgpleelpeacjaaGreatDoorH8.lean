/- Own text. -/
import Derived.Test.YthgpleelpeacjaaGreatDoorH7
set_option linter.unusedSimpArgs false
set_option linter.unusedVariables false
set_option maxRecDepth 20000
set_option maxHeartbeats 12800000
namespace Go.Proofs.YthgpleelpeacjaaGreatDoor
open Go.RowKit
def PxB (w : World) (g M : Nat) (G : Nat → Nat → Nat) : Prop := ∃ cs : Array Value, w.heap[g]? = some (.cells cs 239 (0, 0)) ∧ ∀ i k, i < M → k < 15 → cs[i * 15 + k]? = some (.int .i64 (pv (G i k)))
section
variable {w w' : World} {g M : Nat} {G : Nat → Nat → Nat}
theorem PxB.lt (h : PxB w g M G) : g < w.heap.size := by obtain ⟨cs, h1, _⟩ := h; exact lt_of_block h1
theorem PxB.below (h : PxB w g M G) (hb : Below w.heap.size w w') : PxB w' g M G := by
 obtain ⟨cs, h1, h2⟩ := h
 exact ⟨cs, by rw [hb.block _ (lt_of_block h1)]; exact h1, h2⟩
theorem PxB.less (h : PxB w g M G) (M' : Nat) (hm : M' ≤ M) : PxB w g M' G := by
 obtain ⟨cs, h1, h2⟩ := h
 exact ⟨cs, h1, fun i k hi hk => h2 i k (by omega) hk⟩
theorem PxB.congr (h : PxB w g M G) (G' : Nat → Nat → Nat) (hg : ∀ i k, i < M → k < 15 → G i k = G' i k) : PxB w g M G' := by
 obtain ⟨cs, h1, h2⟩ := h
 exact ⟨cs, h1, fun i k hi hk => by rw [← hg i k hi hk]; exact h2 i k hi hk⟩
theorem PxB.cell (h : PxB w g M G) (i k : Nat) (hi : i < M) (hk : k < 15) : w.cell? ⟨g, i * 15 + k, none⟩ = some (.int .i64 (pv (G i k))) := by
 obtain ⟨cs, h1, h2⟩ := h
 rw [cell_of_row _ _ _ _ _ _ h1]; exact h2 i k hi hk
theorem PxB.frozen (h : PxB w g M G) (o : Nat) : w.frozen? ⟨g, o, none⟩ = false := by
 obtain ⟨cs, h1, _⟩ := h
 simp [World.frozen?, h1]
theorem PxB.range (h : PxB w g M G) (i : Nat) (hi : i < M) : w.rangeAt g (i * 15) (pxA fun k => (pv (G i k))).toList := fun j v hv => by
 by_cases hj : j < 15
 ·have := pxA_get (fun k => (pv (G i k))) j hj
  rw [Array.getElem?_toList, this] at hv
  rw [← hv]
  exact h.cell i j hi hj
 ·rw [List.getElem?_eq_none (by rw [Array.length_toList, pxA_size]; omega)] at hv
  cases hv
theorem PxB.there (h : PxB w g M G) (i : Nat) (hi : i < M) : w.there g (i * 15) 15 := fun j hj => ⟨by rw [h.cell i j hi hj]; rfl, h.frozen _⟩
theorem PxB.set (h : PxB w g M G) (i k v : Nat) (hi : i < M) (hk : k < 15) : PxB (w.setCell ⟨g, i * 15 + k, none⟩ (.int .i64 (pv v))) g M (fun i' k' => if i' = i ∧ k' = k then v else G i' k') := by
 obtain ⟨cs, h1, h2⟩ := h
 refine ⟨cs.setIfInBounds (i * 15 + k) (.int .i64 (pv v)), block_setCell _ _ _ _ _ _ h1, fun i' k' hi' hk' => ?_⟩
 dsimp only
 rw [Array.getElem?_setIfInBounds]
 by_cases e : i' = i ∧ k' = k
 ·obtain ⟨rfl, rfl⟩ := e
  have hlt : i' * 15 + k' < cs.size := by
   rcases Nat.lt_or_ge (i' * 15 + k') cs.size with h3 | h3
   ·exact h3
   ·have := h2 i' k' hi hk; rw [Array.getElem?_eq_none h3] at this; cases this
  rw [if_pos rfl, if_pos hlt, if_pos ⟨rfl, rfl⟩]
 ·rw [if_neg (by omega), if_neg e]
  exact h2 i' k' hi' hk'
theorem PxB.other (h : PxB w g M G) (p : Addr) (u : Value) (hp : p.block ≠ g) : PxB (w.setCell p u) g M G := by
 obtain ⟨cs, h1, h2⟩ := h
 exact ⟨cs, by rw [Below.heap_setCell w p u g (fun e => hp e.symm)]; exact h1, h2⟩
end
theorem step_load_mid {P : Program} {ops : Array Oper} {o : Oper} {a : Act} {w : World} {K : Act → World → Prop} {Q : Exit → Act → World → Prop} {E : Prop} (hgd : o.guard = none) (ty : TypeId) (x : Operand) (ho : o.op = .load ty x)
  (b off : Nat) (hx : a.eval x = .pointer (some ⟨b, off, none⟩)) (cs : List Value) (d : TypeDesc) (hc : w.rangeAt b off cs)
  (hu : P.underlying ty = some d) (hd : d.isRow = true) (hi : (P.info? ty).map (·.size) = some cs.length)
  (h : K (a.put o.dst (.agg cs.toArray)) w) : if Region.wanted o (yielded ops a.tmps) = true then Oper.wp P o a w K Q else E := by
 have hw : Region.wanted o (yielded ops a.tmps) = true := by simp [Region.wanted, hgd]
 rw [if_pos hw]
 exact wp_load_mid ty x ho b off hx cs d hc hu hd hi h
theorem step_store_mid {P : Program} {ops : Array Oper} {o : Oper} {a : Act} {w : World} {K : Act → World → Prop} {Q : Exit → Act → World → Prop} {E : Prop} (hgd : o.guard = none) (ty : TypeId) (x y : Operand) (ho : o.op = .store ty x y)
  (b off : Nat) (cells : Array Value) (hx : a.eval x = .pointer (some ⟨b, off, none⟩)) (hy : a.eval y = .agg cells)
  (ht : w.there b off cells.size) (hi : (P.info? ty).map (·.size) = some cells.size) (h1 : cells.all (·.oneCell') = true)
  (h : K (a.put o.dst undef) (w.setCells b off cells.toList)) : if Region.wanted o (yielded ops a.tmps) = true then Oper.wp P o a w K Q else E := by
 have hw : Region.wanted o (yielded ops a.tmps) = true := by simp [Region.wanted, hgd]
 rw [if_pos hw]
 exact wp_store_mid ty x y ho b off cells hx hy ht hi h1 h
theorem setCells_block (g : Nat) : ∀ (vs : List Value) (o : Nat) (w : World) (cs : Array Value) (t : TypeId), w.heap[g]? = some (.cells cs t (0, 0)) → ∃ cs', (w.setCells g o vs).heap[g]? = some (.cells cs' t (0, 0)) ∧ (∀ j, j < vs.length → o + j < cs.size → cs'[o + j]? = vs[j]?) ∧ (∀ x, x < o ∨ o + vs.length ≤ x → cs'[x]? = cs[x]?)
 | [], o, w, cs, t, h => ⟨cs, h, fun j hj => absurd hj (Nat.not_lt_zero _), fun x _ => rfl⟩
 | v :: vs, o, w, cs, t, h => by
  obtain ⟨cs', h1, h2, h3⟩ := setCells_block g vs (o + 1) (w.setCell ⟨g, o, none⟩ v) (cs.setIfInBounds o v) t (block_setCell _ _ _ _ _ _ h)
  refine ⟨cs', h1, fun j hj hlt => ?_, fun x hx => ?_⟩
  ·cases j with
   | zero =>
    rw [Nat.add_zero, h3 o (Or.inl (by omega)), Array.getElem?_setIfInBounds, if_pos rfl, if_pos (by simpa using hlt)]
    rfl
   | succ j =>
    have := h2 j (by simpa using hj) (by rw [Array.size_setIfInBounds]; omega)
    rw [show o + (j + 1) = o + 1 + j by omega, this]
    rfl
  ·rw [h3 x (by simp at hx; omega), Array.getElem?_setIfInBounds, if_neg (by simp at hx; omega)]
theorem stays_setCells (g : Nat) : ∀ (vs : List Value) (o : Nat) (w : World), Stays (fun b => b = g) w (w.setCells g o vs)
 | [], _, w => Stays.refl _ _
 | v :: vs, o, w => ((Stays.refl (fun b => b = g) w).setCell ⟨g, o, none⟩ v (Or.inl rfl)).trans (stays_setCells g vs (o + 1) _) (fun _ _ h => h)
theorem PxB.setRow {w : World} {g M : Nat} {G : Nat → Nat → Nat} (h : PxB w g M G) (i : Nat) (hi : i < M) (f : Nat → Nat) : PxB (w.setCells g (i * 15) (pxA fun k => (pv (f k))).toList) g M (fun i' k' => if i' = i then f k' else G i' k') := by
 obtain ⟨cs, h1, h2⟩ := h
 obtain ⟨cs', h3, h4, h5⟩ := setCells_block g (pxA fun k => (pv (f k))).toList (i * 15) w cs 239 h1
 have hl : (pxA fun k => (pv (f k))).toList.length = 15 := by rw [Array.length_toList, pxA_size]
 refine ⟨cs', h3, fun i' k' hi' hk' => ?_⟩
 dsimp only
 by_cases e : i' = i
 ·subst e
  have hlt : i' * 15 + k' < cs.size := by
   rcases Nat.lt_or_ge (i' * 15 + k') cs.size with h6 | h6
   ·exact h6
   ·have := h2 i' k' hi' hk'; rw [Array.getElem?_eq_none h6] at this; cases this
  rw [h4 k' (by omega) hlt, if_pos rfl, Array.getElem?_toList, pxA_get _ k' hk']
 ·rw [if_neg e, h5 (i' * 15 + k') (by rw [hl]; omega)]
  exact h2 i' k' hi' hk'
theorem merged_spec (H : Nat) (g cap : Nat) (hc : 2 * H ≤ cap) (h16 : H ≤ 16) (hH : 0 < H) (G : Nat → Nat → Nat) (hG : ∀ i k, G i k ≤ 400000000000000 ∨ G i k = 1000000000000000) (w : World) (h : PxB w g (2 * H) G) :
  Calls Tryz.prog 194 #[.slice (some ⟨g, 0, none⟩) (2 * H) cap] w fun en w' => en = .returned (.slice (some ⟨g, 0, none⟩) H cap) ∧ PxB w' g H (fun i k => pl (G (2 * i) k) (G (2 * i + 1) k)) ∧ Stays (fun b => b = g) w w' := by
 have hdv : (2 * (H : Int)).tdiv 2 = (H : Int) := by rw [Int.tdiv_eq_ediv_of_nonneg (by omega)]; omega
 have HP : Hid (PxB w g (2 * H) G) := h
 clear h
 go_enter Tryz.func194, Tryz.ntmps194
 go_wp2_with fail
 go_loopw [4, 12] (fun s4 s12 wr => ∃ i : Nat, i ≤ H ∧ s12 = .int .i64 (i : Int) ∧ PxB wr g (2 * H) (fun i' k' => if i' < i then pl (G (2 * i') k') (G (2 * i' + 1) k') else G i' k') ∧ Stays (fun b => b = g) w wr) (fun _ s12 _ => H - (intOf s12).toNat)
 case atStart => exact ⟨0, Nat.zero_le _, rfl, by simpa using HP.out, Stays.refl _ _⟩
 case round =>
  clear HP
  obtain ⟨i, hi, rfl, hpx, hst⟩ := hrel
  have HP : Hid (PxB wr g (2 * H) (fun i' k' => if i' < i then pl (G (2 * i') k') (G (2 * i' + 1) k') else G i' k')) := hpx
  have HS : Hid (Stays (fun b => b = g) w wr) := hst
  clear hpx hst
  by_cases hlt : i < H
  ·have hi2 : 2 * (i : Int) < 2 * (H : Int) := by omega
   have hi3 : 2 * (i : Int) + 1 < 2 * (H : Int) := by omega
   have hi4 : (0 : Int) ≤ 2 * (i : Int) := by omega
   have hi5 : ¬ 2 * (i : Int) + 1 < 0 := by omega
   have hi6 : (0 : Int) ≤ 2 * (i : Int) + 1 := by omega
   have hw1 : IntKind.i64.wrap (2 * (i : Int)) = 2 * (i : Int) := by rw [IntKind.wrap_i64]; omega
   have hw2 : IntKind.i64.wrap (2 * (i : Int) + 1) = 2 * (i : Int) + 1 := by rw [IntKind.wrap_i64]; omega
   have hn1 : (2 * (i : Int)).toNat = 2 * i := by omega
   have hn2 : (2 * (i : Int) + 1).toNat = 2 * i + 1 := by omega
   have HPd : Hid (PxB wr.drew g (2 * H) (fun i' k' => if i' < i then pl (G (2 * i') k') (G (2 * i' + 1) k') else G i' k')) := HP.out.below ⟨rfl, rfl, rfl, Nat.le_refl _, fun _ _ => rfl⟩
   obtain ⟨f0, hf0⟩ : ∃ f0 : Nat → Nat, f0 = fun k => G (2 * i) k := ⟨_, rfl⟩
   obtain ⟨f1, hf1⟩ : ∃ f1 : Nat → Nat, f1 = fun k => G (2 * i + 1) k := ⟨_, rfl⟩
   have HR0 : Hid (wr.drew.rangeAt g (2 * i * 15) (pxA fun k => (pv (f0 k))).toList) := by
    have hh := HPd.out.range (2 * i) (by omega)
    rw [hf0]
    have e : (pxA fun k => pv (if 2 * i < i then pl (G (2 * (2 * i)) k) (G (2 * (2 * i) + 1) k) else G (2 * i) k)) = pxA fun k => pv (G (2 * i) k) := pxA_congr _ _ (fun k hk => by rw [if_neg (by omega)])
    rw [← e]; exact hh
   have HR1 : Hid (wr.drew.rangeAt g ((2 * i + 1) * 15) (pxA fun k => (pv (f1 k))).toList) := by
    have hh := HPd.out.range (2 * i + 1) (by omega)
    rw [hf1]
    have e : (pxA fun k => pv (if 2 * i + 1 < i then pl (G (2 * (2 * i + 1)) k) (G (2 * (2 * i + 1) + 1) k) else G (2 * i + 1) k)) = pxA fun k => pv (G (2 * i + 1) k) := pxA_congr _ _ (fun k hk => by rw [if_neg (by omega)])
    rw [← e]; exact hh
   have KPL : Hid (∀ wx, Calls Tryz.prog 226 #[.agg (pxA fun k => (pv (f0 k))), .agg (pxA fun k => (pv (f1 k)))] wx fun en w' => en = .returned (.agg (pxA fun k => pv (pl (f0 k) (f1 k)))) ∧ Below wx.heap.size wx w') := fun wx => plus_spec f0 f1 (fun k => by rw [hf0]; exact hG _ _) (fun k => by rw [hf1]; exact hG _ _) wx
   have HNX : Hid (∀ i' k', (if i' = i then pl (f0 k') (f1 k') else if i' < i then pl (G (2 * i') k') (G (2 * i' + 1) k') else G i' k') = (if i' < i + 1 then pl (G (2 * i') k') (G (2 * i' + 1) k') else G i' k')) := fun i' k' => by
    by_cases e : i' = i
    ·subst e; rw [if_pos rfl, if_pos (by omega), hf0, hf1]
    ·by_cases e2 : i' < i
     ·rw [if_neg e, if_pos e2, if_pos (by omega)]
     ·rw [if_neg e, if_neg e2, if_neg (by omega)]
   clear hf0 hf1 HP
   go_wp2_with fail
   refine wp_region_held_drew (S := fun _ => True) (by kernel_rfl) trivial (fun hS => ?_)
   refine wpAnyH_take (i := 0) (v := .slice (some ⟨g, 0, none⟩) H cap) rfl (by kernel_rfl) (by kernel_rfl) (by kernel_rfl) (fun _ _ _ h => h) (Or.inl ⟨by rfl, fun w hSw => by go_simp⟩) trivial ?_
   simp only [Act.put, List.getElem_toArray, List.getElem_cons_succ, List.getElem_cons_zero, List.setIfInBounds_toArray, List.set_cons_zero, List.set_cons_succ]
   refine wpAnyH_take (i := 1) (v := .int .i64 (i : Int)) rfl (by kernel_rfl) (by kernel_rfl) (by kernel_rfl) (fun _ _ _ h => h) (Or.inl ⟨by rfl, fun w hSw => by go_simp⟩) trivial ?_
   simp only [Act.put, List.getElem_toArray, List.getElem_cons_succ, List.getElem_cons_zero, List.setIfInBounds_toArray, List.set_cons_zero, List.set_cons_succ]
   refine wpAnyH_take (i := 2) (v := .slice (some ⟨g, 0, none⟩) (2 * H) cap) rfl (by kernel_rfl) (by kernel_rfl) (by kernel_rfl) (fun _ _ _ h => h) (Or.inl ⟨by rfl, fun w hSw => by go_simp⟩) trivial ?_
   simp only [Act.put, List.getElem_toArray, List.getElem_cons_succ, List.getElem_cons_zero, List.setIfInBounds_toArray, List.set_cons_zero, List.set_cons_succ]
   refine wpAnyH_take (i := 3) (v := .int .i64 (i : Int)) rfl (by kernel_rfl) (by kernel_rfl) (by kernel_rfl) (fun _ _ _ h => h) (Or.inl ⟨by rfl, fun w hSw => by go_simp⟩) trivial ?_
   simp only [Act.put, List.getElem_toArray, List.getElem_cons_succ, List.getElem_cons_zero, List.setIfInBounds_toArray, List.set_cons_zero, List.set_cons_succ]
   refine wpAnyH_take (i := 4) (v := .int .i64 (2 * (i : Int))) rfl (by kernel_rfl) (by kernel_rfl) (by kernel_rfl) (fun _ _ _ h => h) (Or.inl ⟨by rfl, fun w hSw => by go_simp⟩) trivial ?_
   simp only [Act.put, List.getElem_toArray, List.getElem_cons_succ, List.getElem_cons_zero, List.setIfInBounds_toArray, List.set_cons_zero, List.set_cons_succ]
   refine wpAnyH_take (i := 5) (v := .pointer (some ⟨g, 2 * i * 15, none⟩)) rfl (by kernel_rfl) (by kernel_rfl) (by kernel_rfl) (fun _ _ _ h => h) (Or.inl ⟨by rfl, fun w hSw => by go_simp⟩) trivial ?_
   simp only [Act.put, List.getElem_toArray, List.getElem_cons_succ, List.getElem_cons_zero, List.setIfInBounds_toArray, List.set_cons_zero, List.set_cons_succ]
   refine wpAnyH_take (i := 7) (v := .slice (some ⟨g, 0, none⟩) (2 * H) cap) rfl (by kernel_rfl) (by kernel_rfl) (by kernel_rfl) (fun _ _ _ h => h) (Or.inl ⟨by rfl, fun w hSw => by go_simp⟩) trivial ?_
   simp only [Act.put, List.getElem_toArray, List.getElem_cons_succ, List.getElem_cons_zero, List.setIfInBounds_toArray, List.set_cons_zero, List.set_cons_succ]
   refine wpAnyH_take (i := 8) (v := .int .i64 (i : Int)) rfl (by kernel_rfl) (by kernel_rfl) (by kernel_rfl) (fun _ _ _ h => h) (Or.inl ⟨by rfl, fun w hSw => by go_simp⟩) trivial ?_
   simp only [Act.put, List.getElem_toArray, List.getElem_cons_succ, List.getElem_cons_zero, List.setIfInBounds_toArray, List.set_cons_zero, List.set_cons_succ]
   refine wpAnyH_take (i := 9) (v := .int .i64 (2 * (i : Int))) rfl (by kernel_rfl) (by kernel_rfl) (by kernel_rfl) (fun _ _ _ h => h) (Or.inl ⟨by rfl, fun w hSw => by go_simp⟩) trivial ?_
   simp only [Act.put, List.getElem_toArray, List.getElem_cons_succ, List.getElem_cons_zero, List.setIfInBounds_toArray, List.set_cons_zero, List.set_cons_succ]
   refine wpAnyH_take (i := 10) (v := .int .i64 (2 * (i : Int) + 1)) rfl (by kernel_rfl) (by kernel_rfl) (by kernel_rfl) (fun _ _ _ h => h) (Or.inl ⟨by rfl, fun w hSw => by go_simp⟩) trivial ?_
   simp only [Act.put, List.getElem_toArray, List.getElem_cons_succ, List.getElem_cons_zero, List.setIfInBounds_toArray, List.set_cons_zero, List.set_cons_succ]
   refine wpAnyH_take (i := 11) (v := .pointer (some ⟨g, (2 * i + 1) * 15, none⟩)) rfl (by kernel_rfl) (by kernel_rfl) (by kernel_rfl) (fun _ _ _ h => h) (Or.inl ⟨by rfl, fun w hSw => by go_simp⟩) trivial ?_
   simp only [Act.put, List.getElem_toArray, List.getElem_cons_succ, List.getElem_cons_zero, List.setIfInBounds_toArray, List.set_cons_zero, List.set_cons_succ]
   refine wpAnyH_ready (rs := [6, 12]) (by kernel_rfl) (by simp) ?_
   refine AllReadyH.cons rfl (fun K hK => ?_) ?_
   ·refine step_load_mid rfl 239 (.tmp 20) rfl g (2 * i * 15) rfl (pxA fun k => (pv (f0 k))).toList _ (HR0.out) Tryz.underlying239 rfl (by rw [Array.length_toList, pxA_size]; exact info_prices) ?_
    rw [Array.toArray_toList]
    refine hK.out _ _ trivial (fun hS6 => ?_)
    clear hK K
    simp only [Act.put, List.getElem_toArray, List.getElem_cons_succ, List.getElem_cons_zero, List.setIfInBounds_toArray, List.set_cons_zero, List.set_cons_succ]
    refine wpAnyH_ready (rs := [12]) (by kernel_rfl) (by simp) ?_
    refine AllReadyH.cons rfl (fun K hK => ?_) AllReadyH.nil
    refine step_load_mid rfl 239 (.tmp 26) rfl g ((2 * i + 1) * 15) rfl (pxA fun k => (pv (f1 k))).toList _ (HR1.out) Tryz.underlying239 rfl (by rw [Array.length_toList, pxA_size]; exact info_prices) ?_
    rw [Array.toArray_toList]
    refine hK.out _ _ trivial (fun hS12 => ?_)
    clear hK K
    simp only [Act.put, List.getElem_toArray, List.getElem_cons_succ, List.getElem_cons_zero, List.setIfInBounds_toArray, List.set_cons_zero, List.set_cons_succ]
    refine wpAnyH_ready (rs := [13]) (by kernel_rfl) (by simp) ?_
    refine AllReadyH.cons rfl (fun K hK => ?_) AllReadyH.nil
    go_simp
    refine (KPL.out wr.drew).mono ?_
    rintro e w5 ⟨rfl, hb5⟩
    have HP5 : Hid (PxB w5 g (2 * H) (fun i' k' => if i' < i then pl (G (2 * i') k') (G (2 * i' + 1) k') else G i' k')) := (HPd.out).below hb5
    have HS5 : Hid (Stays (fun b => b = g) w w5) := HS.out.drew.trans (Stays.of_below hb5 _) (fun _ _ h => h)
    refine hK.out _ _ trivial (fun hS5 => ?_)
    clear hK K hb5
    try simp only [Act.put, List.getElem_toArray, List.getElem_cons_succ, List.getElem_cons_zero, List.setIfInBounds_toArray, List.set_cons_zero, List.set_cons_succ]
    refine wpAnyH_take (i := 14) (v := .pointer (some ⟨g, i * 15, none⟩)) rfl (by kernel_rfl) (by kernel_rfl) (by kernel_rfl) (fun _ _ _ h => h) (Or.inl ⟨by rfl, fun w hSw => by go_simp⟩) trivial ?_
    simp only [Act.put, List.getElem_toArray, List.getElem_cons_succ, List.getElem_cons_zero, List.setIfInBounds_toArray, List.set_cons_zero, List.set_cons_succ]
    refine wpAnyH_ready (rs := [15]) (by kernel_rfl) (by simp) ?_
    refine AllReadyH.cons rfl (fun K hK => ?_) AllReadyH.nil
    refine step_store_mid rfl 239 (.tmp 29) (.tmp 28) rfl g (i * 15) (pxA fun k => pv (pl (f0 k) (f1 k))) rfl rfl (by rw [pxA_size]; exact HP5.out.there i (by omega)) (by rw [pxA_size]; exact info_prices) (pxA_all _) ?_
    refine hK.out _ _ trivial (fun hS6 => ?_)
    refine wpAnyH_done (by kernel_rfl) ?_ _
    clear hK K
    go_wp2_with fail
    go_roundw
    case rel =>
     refine ⟨i + 1, by omega, by go_num, ?_, HS5.out.trans (stays_setCells g _ _ w5) (fun _ _ h => h)⟩
     have hh := HP5.out.setRow i (by omega) (fun k => pl (f0 k) (f1 k))
     exact hh.congr _ (fun i' k' h1 h2 => HNX.out i' k')
    case measure => simp [intOf]; omega
   ·refine AllReadyH.cons rfl (fun K hK => ?_) AllReadyH.nil
    refine step_load_mid rfl 239 (.tmp 26) rfl g ((2 * i + 1) * 15) rfl (pxA fun k => (pv (f1 k))).toList _ (HR1.out) Tryz.underlying239 rfl (by rw [Array.length_toList, pxA_size]; exact info_prices) ?_
    rw [Array.toArray_toList]
    refine hK.out _ _ trivial (fun hS12 => ?_)
    clear hK K
    simp only [Act.put, List.getElem_toArray, List.getElem_cons_succ, List.getElem_cons_zero, List.setIfInBounds_toArray, List.set_cons_zero, List.set_cons_succ]
    refine wpAnyH_ready (rs := [6]) (by kernel_rfl) (by simp) ?_
    refine AllReadyH.cons rfl (fun K hK => ?_) AllReadyH.nil
    refine step_load_mid rfl 239 (.tmp 20) rfl g (2 * i * 15) rfl (pxA fun k => (pv (f0 k))).toList _ (HR0.out) Tryz.underlying239 rfl (by rw [Array.length_toList, pxA_size]; exact info_prices) ?_
    rw [Array.toArray_toList]
    refine hK.out _ _ trivial (fun hS6 => ?_)
    clear hK K
    simp only [Act.put, List.getElem_toArray, List.getElem_cons_succ, List.getElem_cons_zero, List.setIfInBounds_toArray, List.set_cons_zero, List.set_cons_succ]
    refine wpAnyH_ready (rs := [13]) (by kernel_rfl) (by simp) ?_
    refine AllReadyH.cons rfl (fun K hK => ?_) AllReadyH.nil
    go_simp
    refine (KPL.out wr.drew).mono ?_
    rintro e w5 ⟨rfl, hb5⟩
    have HP5 : Hid (PxB w5 g (2 * H) (fun i' k' => if i' < i then pl (G (2 * i') k') (G (2 * i' + 1) k') else G i' k')) := (HPd.out).below hb5
    have HS5 : Hid (Stays (fun b => b = g) w w5) := HS.out.drew.trans (Stays.of_below hb5 _) (fun _ _ h => h)
    refine hK.out _ _ trivial (fun hS5 => ?_)
    clear hK K hb5
    try simp only [Act.put, List.getElem_toArray, List.getElem_cons_succ, List.getElem_cons_zero, List.setIfInBounds_toArray, List.set_cons_zero, List.set_cons_succ]
    refine wpAnyH_take (i := 14) (v := .pointer (some ⟨g, i * 15, none⟩)) rfl (by kernel_rfl) (by kernel_rfl) (by kernel_rfl) (fun _ _ _ h => h) (Or.inl ⟨by rfl, fun w hSw => by go_simp⟩) trivial ?_
    simp only [Act.put, List.getElem_toArray, List.getElem_cons_succ, List.getElem_cons_zero, List.setIfInBounds_toArray, List.set_cons_zero, List.set_cons_succ]
    refine wpAnyH_ready (rs := [15]) (by kernel_rfl) (by simp) ?_
    refine AllReadyH.cons rfl (fun K hK => ?_) AllReadyH.nil
    refine step_store_mid rfl 239 (.tmp 29) (.tmp 28) rfl g (i * 15) (pxA fun k => pv (pl (f0 k) (f1 k))) rfl rfl (by rw [pxA_size]; exact HP5.out.there i (by omega)) (by rw [pxA_size]; exact info_prices) (pxA_all _) ?_
    refine hK.out _ _ trivial (fun hS6 => ?_)
    refine wpAnyH_done (by kernel_rfl) ?_ _
    clear hK K
    go_wp2_with fail
    go_roundw
    case rel =>
     refine ⟨i + 1, by omega, by go_num, ?_, HS5.out.trans (stays_setCells g _ _ w5) (fun _ _ h => h)⟩
     have hh := HP5.out.setRow i (by omega) (fun k => pl (f0 k) (f1 k))
     exact hh.congr _ (fun i' k' h1 h2 => HNX.out i' k')
    case measure => simp [intOf]; omega
  ·have hiH : i = H := by omega
   subst hiH
   go_wp2_with fail
   go_ret
   exact ⟨rfl, (HP.out.less i (by omega)).congr _ (fun i' k' h1 h2 => by rw [if_pos h1]), HS.out⟩
theorem infoZ15 : (Tryz.prog.info? 239).map (fun i => (i.zero, i.size, i.bytes)) = some (some (.agg #[.int .i64 0, .int .i64 0, .int .i64 0, .int .i64 0, .int .i64 0, .int .i64 0, .int .i64 0, .int .i64 0, .int .i64 0, .int .i64 0, .int .i64 0, .int .i64 0, .int .i64 0, .int .i64 0, .int .i64 0]), 15, 120) := by kernel_rfl
theorem undProw : Tryz.prog.underlying 210 = some (.slice 239) := by kernel_rfl
theorem make_px (N : Nat) (hN : N ≤ 32768) (w : World) : (Instr.makeSlice 210 (.int .i64 (N : Int)) (.int .i64 (N : Int))).run Tryz.prog w = .ok (.slice (some ⟨w.heap.size, 0, none⟩) N N) (w.alloc (.cells (madeCells #[.int .i64 0, .int .i64 0, .int .i64 0, .int .i64 0, .int .i64 0, .int .i64 0, .int .i64 0, .int .i64 0, .int .i64 0, .int .i64 0, .int .i64 0, .int .i64 0, .int .i64 0, .int .i64 0, .int .i64 0] (N * 15)) 239)) := by
 have h := infoZ15
 cases hq : Tryz.prog.info? 239 with
 | none => rw [hq] at h; cases h
 | some i =>
  rw [hq] at h
  simp only [Option.map_some, Option.some.injEq, Prod.mk.injEq] at h
  have hh := run_make (P := Tryz.prog) w 210 239 i _ undProw hq h.1 .i64 .i64 (N : Int) (N : Int) (by omega) (Int.le_refl _) (by rw [h.2.2]; omega) (by omega)
  rw [h.2.1] at hh
  simpa [Value.cells] using hh
theorem PxB.zero (w : World) (N : Nat) : PxB (w.alloc (.cells (madeCells #[.int .i64 0, .int .i64 0, .int .i64 0, .int .i64 0, .int .i64 0, .int .i64 0, .int .i64 0, .int .i64 0, .int .i64 0, .int .i64 0, .int .i64 0, .int .i64 0, .int .i64 0, .int .i64 0, .int .i64 0] (N * 15)) 239)) w.heap.size N (fun _ _ => 0) := by
 refine ⟨_, heap_alloc_new _ _, fun i k hi hk => ?_⟩
 have hlt : i * 15 + k < N * 15 := by
  have := Nat.mul_le_mul_right 15 (show i + 1 ≤ N by omega)
  omega
 have hm : (i * 15 + k) % 15 = k := by omega
 simp only [madeCells, Array.getElem?_map, Array.getElem?_range, hlt, if_true, Option.map_some]
 have hs : (#[.int .i64 0, .int .i64 0, .int .i64 0, .int .i64 0, .int .i64 0, .int .i64 0, .int .i64 0, .int .i64 0, .int .i64 0, .int .i64 0, .int .i64 0, .int .i64 0, .int .i64 0, .int .i64 0, .int .i64 0] : Array Value).size = 15 := rfl
 rw [hs, hm]
 have : k = 0 ∨ k = 1 ∨ k = 2 ∨ k = 3 ∨ k = 4 ∨ k = 5 ∨ k = 6 ∨ k = 7 ∨ k = 8 ∨ k = 9 ∨ k = 10 ∨ k = 11 ∨ k = 12 ∨ k = 13 ∨ k = 14 := by omega
 rcases this with rfl | rfl | rfl | rfl | rfl | rfl | rfl | rfl | rfl | rfl | rfl | rfl | rfl | rfl | rfl <;> rfl
def costF (l : List Int) (k : Nat) : Nat := if codB l k = true then costN l k else 1000000000000000
theorem costF_le (l : List Int) (hs : ShX l) (k : Nat) (hk : k ≤ 30) : costF l k ≤ 1100000000000 ∨ costF l k = 1000000000000000 := by
 unfold costF
 split
 ·rename_i h
  have := costN_le l k hk ((codB_iff l k).1 h)
  have := hs.2
  left; omega
 ·right; rfl
theorem costI_pv (l : List Int) (hs : ShX l) (k : Nat) (hk : k ≤ 30) : costI l (k : Int) = pv (costF l k) := by
 unfold costI costF
 rw [if_neg (by omega), Int.toNat_natCast]
 split
 ·rename_i h
  have := costN_le l k hk ((codB_iff l k).1 h)
  have := hs.2
  rw [pv_lt (by omega)]
 ·rfl
theorem codB_append (l m : List Int) (k : Nat) : codB (l ++ m) k = (codB l k && codB m k) := by unfold codB; rw [List.all_append]
theorem costF_append (l m : List Int) (hl : ShX l) (hm : ShX m) (k : Nat) (hk : k ≤ 30) : costF (l ++ m) k = pl (costF l k) (costF m k) := by
 unfold costF
 rw [codB_append, costN_append]
 cases h1 : codB l k with
 | false => simp [pl]
 | true =>
  cases h2 : codB m k with
  | false => simp [pl]
  | true =>
   have a1 := costN_le l k hk ((codB_iff l k).1 h1)
   have a2 := costN_le m k hk ((codB_iff m k).1 h2)
   have := hl.2
   have := hm.2
   simp only [Bool.and_self, if_true]
   unfold pl
   rw [if_pos ⟨by omega, by omega⟩]
structure PS (w : World) (N d r g : Nat) (G : Nat → Nat → Nat) (wx : World) : Prop where
 px : PxB wx g N G
 bx : wx.heap[w.heap.size]? = some (.cells #[.int .i64 (N : Int), .int .i64 (d : Int), .int .i64 (r : Int)] 198 (0, 0))
 below : Below w.heap.size w wx
 lt : w.heap.size < g
theorem PS.low {w wx w' : World} {N d r g : Nat} {G : Nat → Nat → Nat} (h : PS w N d r g G wx) (hb : Below wx.heap.size wx w') : PS w N d r g G w' :=
 ⟨h.px.below hb, by rw [hb.block _ (lt_of_block h.bx)]; exact h.bx, h.below.trans (hb.mono h.below.size), h.lt⟩
theorem PS.set {w wx : World} {N d r g : Nat} {G : Nat → Nat → Nat} (h : PS w N d r g G wx) (i k v : Nat) (hi : i < N) (hk : k < 15) : PS w N d r g (fun i' k' => if i' = i ∧ k' = k then v else G i' k') (wx.setCell ⟨g, i * 15 + k, none⟩ (.int .i64 (pv v))) :=
 ⟨h.px.set i k v hi hk, by rw [Below.heap_setCell _ _ _ _ (fun e => by have := h.lt; have e' : w.heap.size = g := e; omega)]; exact h.bx, h.below.setCell (Nat.le_of_lt h.lt) _, h.lt⟩
theorem PS.congr {w wx : World} {N d r g : Nat} {G : Nat → Nat → Nat} (h : PS w N d r g G wx) (G' : Nat → Nat → Nat) (hg : ∀ i k, i < N → k < 15 → G i k = G' i k) : PS w N d r g G' wx :=
 ⟨h.px.congr G' hg, h.bx, h.below, h.lt⟩
theorem pricesOf_spec (b o r : Nat) (h : Cut b o r) (l : List Int) (hn : l.length = b - r) (hs : ShX l) (lo : Option Addr) (cap : Nat) (hc : l.length ≤ cap) (h0 : lo = none → cap = 0) (w : World) (hl : IntsAt w lo l) :
  Calls Tryz.prog 192 #[.slice lo l.length cap, cutV ((2 ^ o : Nat) : Int) ((b / 2 ^ o : Nat) : Int) (r : Int)] w fun en w' => ∃ g, en = .returned (.slice (some ⟨g, 0, none⟩) (2 ^ o) (2 ^ o)) ∧ PxB w' g (2 ^ o) (fun i k => costF (partN l b o r i) k) ∧ w.heap.size ≤ g ∧ Below w.heap.size w w' := by
 have hp := pow15 o h.o15
 have hmk := make_px (2 ^ o) hp.2
 have KP : Hid (∀ i : Nat, i < 2 ^ o → ∀ wx, Below w.heap.size w wx → Calls Tryz.prog 184 #[cutV ((2 ^ o : Nat) : Int) ((b / 2 ^ o : Nat) : Int) (r : Int), .slice lo l.length cap, .int .i64 (i : Int)] wx fun e w' => ∃ xo, e = .returned (.slice xo (partN l b o r i).length (partN l b o r i).length) ∧ Below wx.heap.size wx w' ∧ IntsAt w xo (partN l b o r i)) := fun i hi wx hbx =>
  (partL_spec l b o r i h hi lo cap hn hc h0 _ wx (hl.below hbx)).mono fun e w' hh => by
   obtain ⟨xo, h1, h2, h3, h4, h5⟩ := hh
   refine ⟨xo, h1, h2, ?_⟩
   have hlen := partN_length l h hn i hi
   refine hl.part _ _ ?_ xo (fun bb off e hlt => h5 bb off e (by rw [hlen]; exact hlt))
   have := frN_bound h (i + 1) hi; have := frN_mono b o r i
   omega
 have HSP : Hid (∀ i, ShX (partN l b o r i)) := fun i => hs.part b o r i
 have HB0 : Hid (∀ N d : Nat, PS w N d r (w.heap.size + 1) (fun _ _ => 0) ((w.alloc (.cells #[.int .i64 (N : Int), .int .i64 (d : Int), .int .i64 (r : Int)] 198)).alloc (.cells (madeCells #[.int .i64 0, .int .i64 0, .int .i64 0, .int .i64 0, .int .i64 0, .int .i64 0, .int .i64 0, .int .i64 0, .int .i64 0, .int .i64 0, .int .i64 0, .int .i64 0, .int .i64 0, .int .i64 0, .int .i64 0] (N * 15)) 239))) := fun N d => by
  have hz := PxB.zero (w.alloc (.cells #[.int .i64 (N : Int), .int .i64 (d : Int), .int .i64 (r : Int)] 198)) N
  rw [show (w.alloc (.cells #[.int .i64 (N : Int), .int .i64 (d : Int), .int .i64 (r : Int)] 198)).heap.size = w.heap.size + 1 from by simp] at hz
  exact ⟨hz, heap_two _ _ _, ((Below.refl _ _).alloc (Nat.le_refl _) _).alloc (by simp) _, by omega⟩
 generalize hFF : (fun i k => costF (partN l b o r i) k) = F at *
 have HF : Hid (∀ i k, costF (partN l b o r i) k = F i k) := fun i k => by rw [← hFF]
 clear h hs hl hc h0 hn hFF
 generalize hNN : 2 ^ o = N at *
 generalize b / N = d at *
 clear hNN
 have hn32 := hp.2
 go_enter Tryz.func192, Tryz.ntmps192
 go_wp2_with fail
 generalize hwa : World.alloc (World.alloc _ _) _ = wa at *
 have HA : Hid (PS w N d r (w.heap.size + 1) (fun _ _ => 0) wa) := by rw [← hwa]; exact HB0.out N d
 clear hwa HB0 hmk
 generalize hg1 : w.heap.size + 1 = g at *
 clear hg1
 go_loopw [6, 7, 8, 14, 21] (fun s6 s7 s8 s14 s21 wr => ∃ i : Nat, i ≤ N ∧ s14 = .int .i64 (i : Int) ∧ PS w N d r g (fun i' k' => if i' < i then F i' k' else 0) wr) (fun _ _ _ s14 _ _ => N - (intOf s14).toNat)
 case atStart => exact ⟨0, Nat.zero_le _, rfl, by simpa using HA.out⟩
 case round =>
  clear HA
  obtain ⟨i, hi, rfl, hps⟩ := hrel
  have HA : Hid (PS w N d r g (fun i' k' => if i' < i then F i' k' else 0) wr) := hps
  clear hps
  by_cases hlt : i < N
  ·have kp := KP.out i hlt wr HA.out.below
   have y0 : wr.cell? ⟨w.heap.size, 0, none⟩ = some (.int .i64 (N : Int)) := by rw [cell_of_row _ _ _ _ _ _ HA.out.bx]; rfl
   have y1 : wr.cell? ⟨w.heap.size, 1, none⟩ = some (.int .i64 (d : Int)) := by rw [cell_of_row _ _ _ _ _ _ HA.out.bx]; rfl
   have y2 : wr.cell? ⟨w.heap.size, 2, none⟩ = some (.int .i64 (r : Int)) := by rw [cell_of_row _ _ _ _ _ _ HA.out.bx]; rfl
   have HSX := HSP.out i
   have HFX : Hid (∀ k, costF (partN l b o r i) k = F i k) := fun k => HF.out i k
   have HSX' : Hid (ShX (partN l b o r i)) := HSX
   clear HSX
   generalize partN l b o r i = X at *
   go_wp2_with fail
   refine kp.mono ?_
   rintro e w3 ⟨xo, rfl, hb3, hX⟩
   have HA3 : Hid (PS w N d r g (fun i' k' => if i' < i then F i' k' else 0) w3) := HA.out.low hb3
   have HX : Hid (IntsAt w xo X) := hX
   clear kp hb3 hX HA y0 y1 y2
   go_wp2_with fail
   go_loopw [8, 21] (fun s8 s21 wz => ∃ k : Nat, k ≤ 15 ∧ s21 = .int .i64 (k : Int) ∧ PS w N d r g (fun i' k' => if i' < i ∨ (i' = i ∧ k' < k) then F i' k' else 0) wz ) (fun _ s21 _ => 15 - (intOf s21).toNat)
   case atStart => exact ⟨0, Nat.zero_le _, rfl, HA3.out.congr _ (fun i' k' _ _ => by simp)⟩
   case round =>
    clear HA3
    obtain ⟨k, hk, rfl, hps⟩ := hrel
    have HA : Hid (PS w N d r g (fun i' k' => if i' < i ∨ (i' = i ∧ k' < k) then F i' k' else 0) wr) := hps
    clear hps
    by_cases hkl : k < 15
    ·have hcI : costI X (k : Int) = pv (F i k) := by rw [costI_pv X HSX'.out k (by omega), HFX.out k]
     have KC : Hid (∀ wx, Hid (PS w N d r g (fun i' k' => if i' < i ∨ (i' = i ∧ k' < k) then F i' k' else 0) wx) → Calls Tryz.prog 220 #[.slice xo X.length X.length, .int .i64 (k : Int)] wx fun e w' => e = .returned (.int .i64 (pv (F i k))) ∧ Hid (PS w N d r g (fun i' k' => if i' < i ∨ (i' = i ∧ k' < k) then F i' k' else 0) w')) := fun wx hh => (cost_spec X k xo X.length HSX'.out wx (HX.out.below hh.out.below)).mono fun e w' hx => by
      obtain ⟨h1, n, rfl⟩ := hx
      exact ⟨by rw [h1, hcI], hh.out.low (below_drewN _ _)⟩
     have HD : Hid (PS w N d r g (fun i' k' => if i' < i ∨ (i' = i ∧ k' < k) then F i' k' else 0) wr.drew) := HA.out.low ⟨rfl, rfl, rfl, Nat.le_refl _, fun _ _ => rfl⟩
     have HCL : Hid (∀ wx, Hid (PS w N d r g (fun i' k' => if i' < i ∨ (i' = i ∧ k' < k) then F i' k' else 0) wx) → (∃ v : Int, wx.cell? ⟨g, i * 15 + k, none⟩ = some (.int .i64 v)) ∧ wx.frozen? ⟨g, i * 15 + k, none⟩ = false) := fun wx hh => ⟨⟨_, hh.out.px.cell i k hlt hkl⟩, hh.out.px.frozen _⟩
     have HNX : Hid (∀ i' k', (if i' = i ∧ k' = k then F i k else if i' < i ∨ (i' = i ∧ k' < k) then F i' k' else 0) = (if i' < i ∨ (i' = i ∧ k' < k + 1) then F i' k' else 0)) := fun i' k' => by
      by_cases e : i' = i ∧ k' = k
      ·obtain ⟨rfl, rfl⟩ := e
       rw [if_pos ⟨rfl, rfl⟩, if_pos (Or.inr ⟨rfl, by omega⟩)]
      ·rw [if_neg e]
       by_cases e2 : i' < i ∨ (i' = i ∧ k' < k)
       ·rw [if_pos e2, if_pos (by omega)]
       ·rw [if_neg e2, if_neg (by omega)]
     clear hcI HA
     have hpb : -1 ≤ pv (F i k) ∧ pv (F i k) ≤ 1000000000000000 := by unfold pv; split <;> omega
     generalize hv : F i k = v at *
     obtain ⟨pp, hpp⟩ : ∃ pp, pp = pv v := ⟨_, rfl⟩
     rw [← hpp] at KC hpb
     have HPP : Hid (pp = pv v) := hpp
     clear hpp
     go_wp2_with fail
     go_region_held3 (fun _ => True) (trivial)
      ((go_at_call 220; refine (KC.out _ (by assumption)).mono ?_; rintro e w5 ⟨rfl, h5⟩; obtain ⟨⟨v5, y5⟩, z5⟩ := HCL.out _ h5))
     go_wp2_with fail
     go_roundw
     case rel =>
      exact ⟨k + 1, by omega, by go_num, by rw [HPP.out]; exact (h5.out.set i k v hlt hkl).congr _ (fun i' k' _ _ => HNX.out i' k')⟩
     case measure => simp [intOf]; omega
    ·have hk15 : k = 15 := by omega
     subst hk15
     go_wp2_with fail
     go_roundw
     case rel => exact ⟨i + 1, by omega, by go_num, HA.out.congr _ (fun i' k' h1 h2 => by
      by_cases e : i' < i ∨ (i' = i ∧ k' < 15)
      ·rw [if_pos e, if_pos (by omega)]
      ·rw [if_neg e, if_neg (by omega)])⟩
     case measure => simp [intOf]; omega
  ·have hiN : i = N := by omega
   subst hiN
   go_wp2_with fail
   go_ret
   exact ⟨g, rfl, HA.out.px.congr _ (fun i' k' h1 h2 => by rw [if_pos h1]), Nat.le_of_lt HA.out.lt, HA.out.below⟩
structure FS (w wx : World) : Prop where
 bx : wx.heap[w.heap.size]? = some (.cells #[.int .i64 0, .int .i64 0, .int .i64 0] 198 (0, 0))
 below : Below w.heap.size w wx
theorem FS.low {w wx w' : World} (h : FS w wx) (hb : Below wx.heap.size wx w') : FS w w' := ⟨by rw [hb.block _ (lt_of_block h.bx)]; exact h.bx, h.below.trans (hb.mono h.below.size)⟩
theorem set3_a {wx : World} (n : Nat) (v0 v1 v2 : Value) {a0 a1 a2 : Value} {t : TypeId} (h : wx.heap[n]? = some (.cells #[a0, a1, a2] t (0, 0))) : (((wx.setCell ⟨n, 0, none⟩ v0).setCell ⟨n, 1, none⟩ v1).setCell ⟨n, 2, none⟩ v2).heap[n]? = some (.cells #[v0, v1, v2] t (0, 0)) := by
 rw [block_setCell _ _ _ _ _ _ (block_setCell _ _ _ _ _ _ (block_setCell _ _ _ _ _ _ h))]
 rfl
theorem set3_b {wx : World} (n : Nat) (v0 v1 v2 : Value) {B : Nat} {a : World} (h : Below B a wx) (hn : B ≤ n) : Below B a (((wx.setCell ⟨n, 0, none⟩ v0).setCell ⟨n, 1, none⟩ v1).setCell ⟨n, 2, none⟩ v2) := ((h.setCell hn _).setCell hn _).setCell hn _
theorem Cut.down {b o r : Nat} (h : Cut b (o + 1) r) : Cut b o r := by
 have hd := h.dv
 have hle := h.le
 have e : 2 ^ (o + 1) = 2 * 2 ^ o := by rw [Nat.pow_succ]; omega
 rw [e] at hd hle
 have hp : 0 < 2 ^ o := Nat.pow_pos (by decide)
 have hb : b = 2 ^ o * (2 * (b / (2 * 2 ^ o))) := by
  rw [← Nat.mul_assoc, Nat.mul_comm (2 ^ o) 2]; exact hd.symm
 have hq : b / 2 ^ o = 2 * (b / (2 * 2 ^ o)) := by
  conv => lhs; rw [hb]
  exact Nat.mul_div_cancel_left _ hp
 refine ⟨by have := h.o15; omega, h.b1, h.b2, h.r2, ?_, by rw [hq]; omega⟩
 rw [hq]; exact hb.symm
theorem Cut.half {b o r : Nat} (h : Cut b (o + 1) r) : b / 2 ^ o = 2 * (b / 2 ^ (o + 1)) := by
 have hd := h.dv
 have e : 2 ^ (o + 1) = 2 * 2 ^ o := by rw [Nat.pow_succ]; omega
 have hp : 0 < 2 ^ o := Nat.pow_pos (by decide)
 rw [e] at hd ⊢
 have hb : b = 2 ^ o * (2 * (b / (2 * 2 ^ o))) := by
  rw [← Nat.mul_assoc, Nat.mul_comm (2 ^ o) 2]; exact hd.symm
 conv => lhs; rw [hb]
 exact Nat.mul_div_cancel_left _ hp
theorem Cut.to {b o r : Nat} (h : Cut b o r) (p : Nat) (hp : p ≤ o) : Cut b p r := by
 induction o with
 | zero => rw [show p = 0 by omega]; exact h
 | succ o ih =>
  by_cases e : p = o + 1
  ·rw [e]; exact h
  ·exact ih h.down (by omega)
theorem finest_yes (b o r : Nat) (hC : Cut b o r) (ho4 : o ≤ 4) (hall : ∀ o' : Nat, o < o' → o' ≤ 4 → ¬ cutOk b r o') (w : World) :
  Calls Tryz.prog 190 #[.int .i64 (b : Int), .int .i64 (r : Int)] w fun en w' => en = .returned (.tuple #[cutV ((2 ^ o : Nat) : Int) ((b / 2 ^ o : Nat) : Int) (r : Int), .int .i64 (o : Int)]) ∧ Below w.heap.size w w' := by
 have HALL : Hid (∀ o' : Nat, o < o' → o' ≤ 4 → ¬ cutOk b r o') := hall
 have KY : Hid (∀ wx, Calls Tryz.prog 180 #[.int .i64 (b : Int), .int .i64 (r : Int), .int .i64 (o : Int)] wx fun e w' => e = .returned (.tuple #[cutV ((2 ^ o : Nat) : Int) ((b / 2 ^ o : Nat) : Int) (r : Int), .bool true]) ∧ Below wx.heap.size wx w') := fun wx => cutOf_yes b o r hC wx
 have HOK : Hid (cutOk b r o) := hC.ok
 clear hall hC
 generalize ((2 ^ o : Nat) : Int) = N at *
 generalize ((b / 2 ^ o : Nat) : Int) = d at *
 go_enter Tryz.func190, Tryz.ntmps190
 go_wp2_with fail
 generalize hwa : w.alloc _ = wa at *
 have HA : Hid (FS w wa) := by rw [← hwa]; exact ⟨heap_alloc_new _ _, (Below.refl _ _).alloc (Nat.le_refl _) _⟩
 clear hwa
 go_loopw [6, 7, 8] (fun s6 s7 s8 wr => ∃ q : Nat, q ≤ 5 ∧ s6 = .int .i64 (4 - (q : Int)) ∧ (∀ o' : Nat, 4 - (q : Int) < (o' : Int) → (o' : Int) ≤ 4 → ¬ cutOk (b : Int) (r : Int) o') ∧ FS w wr) (fun s6 _ _ _ => (intOf s6 + 1).toNat)
 case atStart => exact ⟨0, by omega, rfl, fun o' h1 h2 => by omega, HA.out⟩
 case round =>
  clear HA
  obtain ⟨q, hq, rfl, hno, hfs⟩ := hrel
  have HN : Hid (∀ o' : Nat, 4 - (q : Int) < (o' : Int) → (o' : Int) ≤ 4 → ¬ cutOk (b : Int) (r : Int) o') := hno
  have HF : Hid (FS w wr) := hfs
  clear hno hfs
  have hqo : (q : Int) ≤ 4 - (o : Int) := by
   apply Classical.byContradiction
   intro hh
   exact HN.out o (by omega) (by omega) HOK.out
  by_cases hlt : (q : Int) = 4 - (o : Int)
  ·have hqe : (4 : Int) - (q : Int) = (o : Int) := by omega
   rw [hqe] at *
   go_wp2_with fail
   refine (KY.out wr).mono ?_
   rintro e w2 ⟨rfl, hb2⟩
   have HF3 : Hid (FS w (w2.alloc (.cells #[.int .i64 N, .int .i64 d, .int .i64 (r : Int)] 198))) := (HF.out.low hb2).low ((Below.refl _ _).alloc (Nat.le_refl _) _)
   have hne : ¬ w2.heap.size = w.heap.size := by have := lt_of_block (HF.out.low hb2).bx; omega
   have hne2 : ¬ w.heap.size = w2.heap.size := fun e => hne e.symm
   have hb := HF3.out.bx
   have u0 : (w2.alloc (.cells #[.int .i64 N, .int .i64 d, .int .i64 (r : Int)] 198)).cell? ⟨w.heap.size, 0, none⟩ = some (.int .i64 0) := by rw [cell_of_row _ _ _ _ _ _ hb]; rfl
   have u1 : (w2.alloc (.cells #[.int .i64 N, .int .i64 d, .int .i64 (r : Int)] 198)).cell? ⟨w.heap.size, 1, none⟩ = some (.int .i64 0) := by rw [cell_of_row _ _ _ _ _ _ hb]; rfl
   have u2 : (w2.alloc (.cells #[.int .i64 N, .int .i64 d, .int .i64 (r : Int)] 198)).cell? ⟨w.heap.size, 2, none⟩ = some (.int .i64 0) := by rw [cell_of_row _ _ _ _ _ _ hb]; rfl
   have f0 : (w2.alloc (.cells #[.int .i64 N, .int .i64 d, .int .i64 (r : Int)] 198)).frozen? ⟨w.heap.size, 0, none⟩ = false := by simp [World.frozen?, hb]
   have f1 : (w2.alloc (.cells #[.int .i64 N, .int .i64 d, .int .i64 (r : Int)] 198)).frozen? ⟨w.heap.size, 1, none⟩ = false := by simp [World.frozen?, hb]
   have f2 : (w2.alloc (.cells #[.int .i64 N, .int .i64 d, .int .i64 (r : Int)] 198)).frozen? ⟨w.heap.size, 2, none⟩ = false := by simp [World.frozen?, hb]
   clear hb2 hb
   go_wp2_with fail
   generalize hwf : World.setCell _ _ _ = wf
   have hrow : wf.heap[w.heap.size]? = some (.cells #[.int .i64 N, .int .i64 d, .int .i64 (r : Int)] 198 (0, 0)) := by rw [← hwf]; exact set3_a _ _ _ _ HF3.out.bx
   have hbel : Below w.heap.size w wf := by rw [← hwf]; exact set3_b _ _ _ _ HF3.out.below (Nat.le_refl _)
   refine bodyPost_ret (v := .tuple #[.agg #[.int .i64 N, .int .i64 d, .int .i64 (r : Int)], .int .i64 (o : Int)]) ?_ rfl ⟨rfl, hbel⟩
   rw [results_two rfl]
   have hld := run_loadVar_row (P := Tryz.prog) (wf) (w.heap.size) 198 198 #[.int .i64 N, .int .i64 d, .int .i64 (r : Int)] (0, 0) _ hrow Tryz.underlying198 rfl info_cut
   simp [asAddr, Result.andThen, hld]
  ·have hc : ¬ cutOk (b : Int) (r : Int) (4 - (q : Int)) := by
    have := HALL.out (4 - q) (by omega) (by omega)
    rwa [show ((4 - q : Nat) : Int) = 4 - (q : Int) by omega] at this
   have HC : Hid (¬ cutOk (b : Int) (r : Int) (4 - (q : Int))) := hc
   have kc := cutOf_no b (4 - (q : Int)) r hc wr
   clear hc
   go_wp2_with fail
   refine kc.mono ?_
   rintro e w2 ⟨p, s, f, rfl, hb2⟩
   have HF3 : Hid (FS w (w2.alloc (.cells #[.int .i64 p, .int .i64 s, .int .i64 f] 198))) := (HF.out.low hb2).low ((Below.refl _ _).alloc (Nat.le_refl _) _)
   clear hb2 kc
   go_wp2_with fail
   go_roundw
   case rel =>
    refine ⟨q + 1, by omega, ?_, fun o' h1 h2 => ?_, HF3.out⟩
    ·rw [show (4 : Int) - ((q + 1 : Nat) : Int) = 4 - (q : Int) - 1 by omega]
    ·by_cases e : (o' : Int) = 4 - (q : Int)
     ·rw [e]; exact HC.out
     ·exact HN.out o' (by omega) h2
   case measure => simp [intOf]; omega
structure CS (w : World) (g M k gp ge : Nat) (pw : Int) (F : Nat → Nat → Nat) (P E : List Int) (wx : World) : Prop where
 px : PxB wx g M F
 bk : wx.heap[k]? = some (.cells #[.int .i64 0, .int .i64 pw, .slice (some ⟨gp, 0, none⟩) M M, .slice (some ⟨ge, 0, none⟩) M M] 25 (0, 0))
 bp : IntsBlk wx gp P
 be : IntsBlk wx ge E
 lp : P.length = M
 le : E.length = M
 rb : wx.heap[w.heap.size]? = some (.cells #[.int .i64 0, .int .i64 0, .slice none 0 0, .slice none 0 0] 25 (0, 0))
 below : Below w.heap.size w wx
structure CD (n0 g k gp ge : Nat) : Prop where
 hg : g < n0
 hk : n0 < k
 hp : n0 < gp
 he : n0 < ge
 kp : k ≠ gp
 ke : k ≠ ge
 pe : gp ≠ ge
section
variable {w wx w' : World} {g M k gp ge : Nat} {pw : Int} {F : Nat → Nat → Nat} {P E : List Int}
theorem CS.low (h : CS w g M k gp ge pw F P E wx) (hb : Below wx.heap.size wx w') : CS w g M k gp ge pw F P E w' :=
 ⟨h.px.below hb, by rw [hb.block _ (lt_of_block h.bk)]; exact h.bk, h.bp.below hb, h.be.below hb, h.lp, h.le, by rw [hb.block _ (lt_of_block h.rb)]; exact h.rb, h.below.trans (hb.mono h.below.size)⟩
theorem CS.setP (h : CS w g M k gp ge pw F P E wx) (d : CD w.heap.size g k gp ge) (i : Nat) (v : Int) : CS w g M k gp ge pw F (P.set i v) E (wx.setCell ⟨gp, i, none⟩ (.int .i64 v)) :=
 ⟨h.px.other _ _ (fun e => by have := d.hg; have := d.hp; have e' : gp = g := e; omega), by rw [Below.heap_setCell _ _ _ k (fun e => d.kp e)]; exact h.bk, h.bp.set i v, h.be.other _ _ d.pe, by rw [List.length_set]; exact h.lp, h.le, by rw [Below.heap_setCell _ _ _ _ (fun e => by have := d.hp; have e' : w.heap.size = gp := e; omega)]; exact h.rb, h.below.setCell (Nat.le_of_lt d.hp) _⟩
theorem CS.setE (h : CS w g M k gp ge pw F P E wx) (d : CD w.heap.size g k gp ge) (i : Nat) (v : Int) : CS w g M k gp ge pw F P (E.set i v) (wx.setCell ⟨ge, i, none⟩ (.int .i64 v)) :=
 ⟨h.px.other _ _ (fun e => by have := d.hg; have := d.he; have e' : ge = g := e; omega), by rw [Below.heap_setCell _ _ _ k (fun e => d.ke e)]; exact h.bk, h.bp.other _ _ (fun e => d.pe e.symm), h.be.set i v, h.lp, by rw [List.length_set]; exact h.le, by rw [Below.heap_setCell _ _ _ _ (fun e => by have := d.he; have e' : w.heap.size = ge := e; omega)]; exact h.rb, h.below.setCell (Nat.le_of_lt d.he) _⟩
theorem CS.cells (h : CS w g M k gp ge pw F P E wx) : wx.cell? ⟨k, 0, none⟩ = some (.int .i64 0) ∧ wx.cell? ⟨k, 1, none⟩ = some (.int .i64 pw) ∧ wx.cell? ⟨k, 2, none⟩ = some (.slice (some ⟨gp, 0, none⟩) M M) ∧ wx.cell? ⟨k, 3, none⟩ = some (.slice (some ⟨ge, 0, none⟩) M M) := by
 refine ⟨?_, ?_, ?_, ?_⟩ <;> (rw [cell_of_row _ _ _ _ _ _ h.bk]; rfl)
end
def chP (F : Nat → Nat → Nat) (n : Nat) : List Int := (List.range n).map fun i => (bestK (F i) 14 : Int)
def chE (n : Nat) : List Int := List.replicate n (-1)
def chS (F : Nat → Nat → Nat) : Nat → Nat
 | 0 => 6
 | n + 1 => chS F n + (4 + F n (bestK (F n) 14))
theorem chP_len (F : Nat → Nat → Nat) (n : Nat) : (chP F n).length = n := by simp [chP]
theorem chP_succ (F : Nat → Nat → Nat) (n : Nat) : chP F (n + 1) = chP F n ++ [(bestK (F n) 14 : Int)] := by unfold chP; rw [List.range_succ, List.map_append]; rfl
theorem chE_succ (n : Nat) : chE (n + 1) = chE n ++ [-1] := by unfold chE; rw [List.replicate_succ']
theorem chE_len (n : Nat) : (chE n).length = n := by simp [chE]
theorem chS_le (F : Nat → Nat → Nat) (hF : ∀ i, F i 14 ≤ 1100000000000) (n : Nat) : chS F n ≤ 6 + 1100000000004 * n := by
 induction n with
 | zero => exact Nat.le_refl _
 | succ n ih => unfold chS; have := hF n; have := bestK_at (F n) 14; omega
theorem cheapest_spec (g M cap : Nat) (pw : Int) (F : Nat → Nat → Nat) (hF : ∀ i k, F i k ≤ 1000000000000000) (h14 : ∀ i, F i 14 ≤ 1100000000000) (hM : M ≤ 16) (w : World) (h : PxB w g M F) :
  Calls Tryz.prog 193 #[.slice (some ⟨g, 0, none⟩) M cap, .int .i64 pw] w fun en w' => ∃ gp ge, en = .returned (.tuple #[riceV ⟨0, pw, chP F M, chE M⟩ (some ⟨gp, 0, none⟩) M (some ⟨ge, 0, none⟩) M, .int .i64 (chS F M : Int)]) ∧ IntsBlk w' gp (chP F M) ∧ IntsBlk w' ge (chE M) ∧ w.heap.size ≤ gp ∧ w.heap.size ≤ ge ∧ Below w.heap.size w w' := by
 have hmk := run_make_row' (P := Tryz.prog) 22 3 (.int .i64 0) 8 Tryz.underlying22 info3' rfl .i64 .i64 M (by omega) (by omega)
 have hgl := h.lt
 have HB1 : Hid (Below w.heap.size w (w.alloc (.cells #[.int .i64 0, .int .i64 0, .slice none 0 0, .slice none 0 0] 25))) := (Below.refl _ _).alloc (Nat.le_refl _) _
 have HX1 : Hid ((w.alloc (.cells #[.int .i64 0, .int .i64 0, .slice none 0 0, .slice none 0 0] 25)).heap[w.heap.size]? = some (.cells #[.int .i64 0, .int .i64 0, .slice none 0 0, .slice none 0 0] 25 (0, 0))) := heap_alloc_new _ _
 have HP1 : Hid (PxB (w.alloc (.cells #[.int .i64 0, .int .i64 0, .slice none 0 0, .slice none 0 0] 25)) g M F) := h.below HB1.out
 clear h
 go_enter Tryz.func193, Tryz.ntmps193
 go_upto_region 1 with fail
 generalize hw1 : w.alloc _ = w1 at *
 have hz1 : w.heap.size < w1.heap.size := lt_of_block HX1.out
 clear hw1
 go_cut [6] from 11 to 18 (fun s6 wx => ∃ gp ge k : Nat, s6 = .pointer (some ⟨k, 0, none⟩) ∧ wx.heap[k]? = some (.cells #[.int .i64 0, .int .i64 pw, .slice (some ⟨gp, 0, none⟩) M M, .slice (some ⟨ge, 0, none⟩) M M] 25 (0, 0)) ∧ wx.heap[gp]? = some (.cells (madeCells #[.int .i64 0] M) 3 (0, 0)) ∧ wx.heap[ge]? = some (.cells (madeCells #[.int .i64 0] M) 3 (0, 0)) ∧ gp ≠ ge ∧ k ≠ gp ∧ k ≠ ge ∧ w1.heap.size ≤ gp ∧ w1.heap.size ≤ ge ∧ w1.heap.size ≤ k ∧ Below w1.heap.size w1 wx)
 case first =>
  go_region
  all_goals go_wp2_with fail
  all_goals go_meet
  all_goals first
   | exact ⟨w1.heap.size, w1.heap.size + 1, w1.heap.size + 2, rfl, (heap_three _ _ _ _).2.2, (heap_three _ _ _ _).1, (heap_three _ _ _ _).2.1, by omega, by omega, by omega, by omega, by omega, by omega, below_three _ _ _ _⟩
   | exact ⟨w1.heap.size, w1.heap.size + 2, w1.heap.size + 1, rfl, (heap_three _ _ _ _).2.1, (heap_three _ _ _ _).1, (heap_three _ _ _ _).2.2, by omega, by omega, by omega, by omega, by omega, by omega, below_three _ _ _ _⟩
   | exact ⟨w1.heap.size + 1, w1.heap.size, w1.heap.size + 2, rfl, (heap_three _ _ _ _).2.2, (heap_three _ _ _ _).2.1, (heap_three _ _ _ _).1, by omega, by omega, by omega, by omega, by omega, by omega, below_three _ _ _ _⟩
   | exact ⟨w1.heap.size + 2, w1.heap.size, w1.heap.size + 1, rfl, (heap_three _ _ _ _).2.1, (heap_three _ _ _ _).2.2, (heap_three _ _ _ _).1, by omega, by omega, by omega, by omega, by omega, by omega, below_three _ _ _ _⟩
   | exact ⟨w1.heap.size + 1, w1.heap.size + 2, w1.heap.size, rfl, (heap_three _ _ _ _).1, (heap_three _ _ _ _).2.1, (heap_three _ _ _ _).2.2, by omega, by omega, by omega, by omega, by omega, by omega, below_three _ _ _ _⟩
   | exact ⟨w1.heap.size + 2, w1.heap.size + 1, w1.heap.size, rfl, (heap_three _ _ _ _).1, (heap_three _ _ _ _).2.2, (heap_three _ _ _ _).2.1, by omega, by omega, by omega, by omega, by omega, by omega, below_three _ _ _ _⟩
 case rest =>
  clear hmk
  obtain ⟨gp, ge, k, rfl, hk, hgp, hge, h1, h2, h3, h4, h5, h6, hbc⟩ := hcut
  have HD : Hid (CD w.heap.size g k gp ge) := ⟨hgl, by omega, by omega, by omega, h2, h3, h1⟩
  have HC : Hid (CS w g M k gp ge pw F (List.replicate M 0) (List.replicate M 0) wc) := ⟨HP1.out.below hbc, hk, by unfold IntsBlk; rw [hgp, made_ints], by unfold IntsBlk; rw [hge, made_ints], List.length_replicate, List.length_replicate, by rw [hbc.block _ (lt_of_block HX1.out)]; exact HX1.out, HB1.out.trans (hbc.mono HB1.out.size)⟩
  clear hk hgp hge hbc HP1 HX1 HB1 h1 h2 h3 h4 h5 h6
  go_wp2_with fail
  go_loopw [7, 8, 9, 10, 21] (fun s7 s8 s9 s10 s21 wr => ∃ j : Nat, j ≤ M ∧ s21 = .int .i64 (j : Int) ∧ s7 = .int .i64 ((chS F j : Nat) : Int) ∧ CS w g M k gp ge pw F (chP F j ++ List.replicate (M - j) 0) (chE j ++ List.replicate (M - j) 0) wr) (fun _ _ _ _ s21 _ => M - (intOf s21).toNat)
  case atStart => exact ⟨0, Nat.zero_le _, rfl, rfl, HC.out⟩
  case round =>
   clear HC
   obtain ⟨j, hj, rfl, rfl, hcs⟩ := hrel
   have HC : Hid (CS w g M k gp ge pw F (chP F j ++ List.replicate (M - j) 0) (chE j ++ List.replicate (M - j) 0) wr) := hcs
   clear hcs
   by_cases hlt : j < M
   ·have hFj : ∀ q, F j q ≤ 1000000000000000 := fun q => hF j q
    have HRG : Hid (wr.rangeAt g (j * 15) (pxA fun q => (pv (F j q))).toList) := HC.out.px.range j hlt
    have KL : Hid (∀ wx, Calls Tryz.prog 225 #[.agg (pxA fun q => (pv (F j q)))] wx fun en w' => en = .returned (.int .i64 (bestK (F j) 14 : Int)) ∧ Below wx.heap.size wx w') := fun wx => least_spec (F j) hFj wx
    have hbk := bestK_le (F j) 14
    have hget := pxA_get (fun q => (pv (F j q))) (bestK (F j) 14) (by omega)
    have hAs : (pxA fun q => (pv (F j q))).size = 15 := pxA_size _
    have hAa : (pxA fun q => (pv (F j q))).all (·.oneCell') = true := pxA_all _
    have hvb : F j (bestK (F j) 14) ≤ 1100000000000 := Nat.le_trans (bestK_at (F j) 14) (h14 j)
    have hpv : pv (F j (bestK (F j) 14)) = (F j (bestK (F j) 14) : Int) := pv_lt (by omega)
    rw [hpv] at hget
    clear hpv
    have hsb := chS_le F h14 j
    have HSS : Hid (chS F (j + 1) = chS F j + (4 + F j (bestK (F j) 14))) := rfl
    have HEP : Hid ((chP F j ++ List.replicate (M - j) 0).set j (bestK (F j) 14 : Int) = chP F (j + 1) ++ List.replicate (M - (j + 1)) 0) := by
     show _ = _
     have := set_next (chP F j) (M - j) (bestK (F j) 14 : Int) (by omega)
     rw [chP_len] at this
     rw [this, chP_succ, show M - j - 1 = M - (j + 1) by omega]
    have HEE : Hid ((chE j ++ List.replicate (M - j) 0).set j (-1) = chE (j + 1) ++ List.replicate (M - (j + 1)) 0) := by
     show _ = _
     have := set_next (chE j) (M - j) (-1) (by omega)
     rw [chE_len] at this
     rw [this, chE_succ, show M - j - 1 = M - (j + 1) by omega]
    have HB9 : Hid (Below wr.heap.size wr ((wr.alloc (.cells #[.int .i64 0, .int .i64 0, .int .i64 0, .int .i64 0, .int .i64 0, .int .i64 0, .int .i64 0, .int .i64 0, .int .i64 0, .int .i64 0, .int .i64 0, .int .i64 0, .int .i64 0, .int .i64 0, .int .i64 0] 239)).setRow wr.heap.size (pxA fun q => (pv (F j q))))) := below_setRow ((Below.refl _ _).alloc (Nat.le_refl _) _) _ _ (Nat.le_refl _)
    have HR9 : Hid (((wr.alloc (.cells #[.int .i64 0, .int .i64 0, .int .i64 0, .int .i64 0, .int .i64 0, .int .i64 0, .int .i64 0, .int .i64 0, .int .i64 0, .int .i64 0, .int .i64 0, .int .i64 0, .int .i64 0, .int .i64 0, .int .i64 0] 239)).setRow wr.heap.size (pxA fun q => (pv (F j q)))).heap[wr.heap.size]? = some (.cells (pxA fun q => (pv (F j q))) 239 (0, 0))) := setRow_heap _ wr.heap.size #[.int .i64 0, .int .i64 0, .int .i64 0, .int .i64 0, .int .i64 0, .int .i64 0, .int .i64 0, .int .i64 0, .int .i64 0, .int .i64 0, .int .i64 0, .int .i64 0, .int .i64 0, .int .i64 0, .int .i64 0] _ 239 _ (heap_alloc_new _ _)
    have hZs : (#[.int .i64 0, .int .i64 0, .int .i64 0, .int .i64 0, .int .i64 0, .int .i64 0, .int .i64 0, .int .i64 0, .int .i64 0, .int .i64 0, .int .i64 0, .int .i64 0, .int .i64 0, .int .i64 0, .int .i64 0] : Array Value).size = 15 := rfl
    generalize hAA : (pxA fun q => (pv (F j q))) = A at *
    generalize hbb : bestK (F j) 14 = bk at *
    generalize hvv : F j bk = v at *
    clear hAA hbb hFj
    have HP0 := HC.out.lp
    have HE0 := HC.out.le
    clear HP0 HE0
    go_wp2_with (first
     | (refine wpList_load_mid rfl 239 _ rfl g (j * 15) rfl A.toList _ HRG.out Tryz.underlying239 rfl (by rw [Array.length_toList, hAs]; exact info_prices) ?_; rw [Array.toArray_toList])
     | (refine wpList_store_row rfl 239 _ _ rfl wr.heap.size A rfl rfl 239 #[.int .i64 0, .int .i64 0, .int .i64 0, .int .i64 0, .int .i64 0, .int .i64 0, .int .i64 0, .int .i64 0, .int .i64 0, .int .i64 0, .int .i64 0, .int .i64 0, .int .i64 0, .int .i64 0, .int .i64 0] (heap_alloc_new _ _) (by rw [hAs]; exact info_prices) (by rw [hAs]; rfl) hAa ?_)
     | (refine wpList_load_row rfl 239 _ rfl wr.heap.size rfl 239 A (0, 0) _ HR9.out Tryz.underlying239 rfl (by rw [hAs]; exact info_prices) ?_))
    generalize hw9 : World.setRow _ _ _ = w9 at *
    have HC9 : Hid (CS w g M k gp ge pw F (chP F j ++ List.replicate (M - j) 0) (chE j ++ List.replicate (M - j) 0) w9) := HC.out.low HB9.out
    have hn9 : wr.heap.size < w9.heap.size := lt_of_block HR9.out
    clear hw9 HB9 HRG
    refine (KL.out w9).mono ?_
    rintro e w5 ⟨rfl, hb5⟩
    have HC5 : Hid (CS w g M k gp ge pw F (chP F j ++ List.replicate (M - j) 0) (chE j ++ List.replicate (M - j) 0) w5) := HC9.out.low hb5
    have h95 : w5.heap[wr.heap.size]? = some (.cells A 239 (0, 0)) := by rw [hb5.block _ hn9]; exact HR9.out
    have H95 : Hid (w5.heap[wr.heap.size]? = some (.cells A 239 (0, 0))) := h95
    have c9 : w5.cell? ⟨wr.heap.size, bk, none⟩ = some (.int .i64 (v : Int)) := by rw [cell_of_row _ _ _ _ _ _ h95]; exact hget
    have hgt : ∀ x, x = gp ∨ x = ge → x ≠ wr.heap.size := fun x hx e => by
     have h1 := HC.out.bp.lt
     have h2 := HC.out.be.lt
     rcases hx with hx | hx <;> omega
    obtain ⟨y0, y1, y2, y3⟩ := HC5.out.cells
    have yp := HC5.out.bp.cell j (by rw [HC5.out.lp]; exact hlt)
    have ye := HC5.out.be.cell j (by rw [HC5.out.le]; exact hlt)
    have fp := HC5.out.bp.frozen j
    have fe := HC5.out.be.frozen j
    have hpe := HD.out.pe
    have hep : ge ≠ gp := fun e => hpe e.symm
    have hvn : ((v : Int) == -1) = false := by rw [beq_eq_false_iff_ne]; omega
    have hkp := HD.out.kp
    have hke := HD.out.ke
    have hpk : gp ≠ k := fun e => hkp e.symm
    have hek : ge ≠ k := fun e => hke e.symm
    clear h95 hb5 HC9
    go_wp2_with fail
    go_region
    go_wp2_with fail
    generalize hw6 : World.setCell _ _ _ = w6
    have HC6 : Hid (CS w g M k gp ge pw F (chP F (j + 1) ++ List.replicate (M - (j + 1)) 0) (chE (j + 1) ++ List.replicate (M - (j + 1)) 0) w6) := by
     rw [← hw6, ← HEP.out, ← HEE.out]
     exact (HC5.out.setP HD.out j _).setE HD.out j _
    have c6 : w6.cell? ⟨wr.heap.size, bk, none⟩ = some (.int .i64 (v : Int)) := by
     have hb6 : w6.heap[wr.heap.size]? = some (.cells A 239 (0, 0)) := by
      rw [← hw6, Below.heap_setCell _ _ _ _ (fun e => hgt ge (Or.inr rfl) e.symm), Below.heap_setCell _ _ _ _ (fun e => hgt gp (Or.inl rfl) e.symm)]
      exact H95.out
     rw [cell_of_row _ _ _ _ _ _ hb6]; exact hget
    have x0 := HC6.out.cells.1
    have KW : Hid (∀ wx, Calls Tryz.prog 222 #[.int .i64 0] wx fun e w' => e = .returned (.int .i64 4) ∧ w' = wx) := fun wx => pw_spec 0 (by omega) (by omega) wx
    have kw := KW.out
    clear hw6 y0 y1 y2 y3 yp ye fp fe c9 HC5 HEP HEE
    have HC7 : Hid (CS w g M k gp ge pw F (chP F (j + 1) ++ List.replicate (M - (j + 1)) 0) (chE (j + 1) ++ List.replicate (M - (j + 1)) 0) w6.drew) := HC6.out.low ⟨rfl, rfl, rfl, Nat.le_refl _, fun _ _ => rfl⟩
    have x0' : w6.drew.cell? ⟨k, 0, none⟩ = some (.int .i64 0) := HC7.out.cells.1
    have c6' : w6.drew.cell? ⟨wr.heap.size, bk, none⟩ = some (.int .i64 (v : Int)) := c6
    clear x0 c6 HC6
    generalize w6.drew = w7 at *
    go_quiet ((go_at_call 222; exact Calls.quiet_of_same (kw _)))
    go_wp2_with fail
    go_roundw
    case rel =>
     refine ⟨j + 1, by omega, by go_num, ?_, HC7.out.low (below_drewN _ _)⟩
     rw [HSS.out]
     go_num
    case measure => simp [intOf]; omega
   ·have hjM : j = M := by omega
    subst hjM
    have eP : chP F j ++ List.replicate (j - j) 0 = chP F j := by rw [Nat.sub_self, List.replicate_zero, List.append_nil]
    have eE : chE j ++ List.replicate (j - j) 0 = chE j := by rw [Nat.sub_self, List.replicate_zero, List.append_nil]
    rw [eP, eE] at HC
    obtain ⟨y0, y1, y2, y3⟩ := HC.out.cells
    have hxr := HC.out.rb
    have u0 : wr.cell? ⟨w.heap.size, 0, none⟩ = some (.int .i64 0) := by rw [cell_of_row _ _ _ _ _ _ hxr]; rfl
    have u1 : wr.cell? ⟨w.heap.size, 1, none⟩ = some (.int .i64 0) := by rw [cell_of_row _ _ _ _ _ _ hxr]; rfl
    have u2 : wr.cell? ⟨w.heap.size, 2, none⟩ = some (.slice none 0 0) := by rw [cell_of_row _ _ _ _ _ _ hxr]; rfl
    have u3 : wr.cell? ⟨w.heap.size, 3, none⟩ = some (.slice none 0 0) := by rw [cell_of_row _ _ _ _ _ _ hxr]; rfl
    have f0 : wr.frozen? ⟨w.heap.size, 0, none⟩ = false := by simp [World.frozen?, hxr]
    have f1 : wr.frozen? ⟨w.heap.size, 1, none⟩ = false := by simp [World.frozen?, hxr]
    have f2 : wr.frozen? ⟨w.heap.size, 2, none⟩ = false := by simp [World.frozen?, hxr]
    have f3 : wr.frozen? ⟨w.heap.size, 3, none⟩ = false := by simp [World.frozen?, hxr]
    have hkn : ¬ k = w.heap.size := by have := HD.out.hk; omega
    clear hxr eP eE
    go_wp2_with fail
    generalize hwf : World.setCell _ _ _ = wf
    have hrow : wf.heap[w.heap.size]? = some (.cells #[.int .i64 0, .int .i64 pw, .slice (some ⟨gp, 0, none⟩) j j, .slice (some ⟨ge, 0, none⟩) j j] 25 (0, 0)) := by rw [← hwf]; exact set4_a _ _ _ _ _ HC.out.rb
    have hO : ∀ i, i ≠ w.heap.size → wf.heap[i]? = wr.heap[i]? := fun i hi => by rw [← hwf]; exact set4_d _ _ _ _ _ i hi
    have hbel : Below w.heap.size w wf := by rw [← hwf]; exact (((HC.out.below.setCell (Nat.le_refl _) _).setCell (Nat.le_refl _) _).setCell (Nat.le_refl _) _).setCell (Nat.le_refl _) _
    have hD := HD.out
    refine bodyPost_ret (v := .tuple #[.agg #[.int .i64 0, .int .i64 pw, .slice (some ⟨gp, 0, none⟩) j j, .slice (some ⟨ge, 0, none⟩) j j], .int .i64 ((chS F j : Nat) : Int)]) ?_ rfl ⟨gp, ge, ?_, ?_, ?_, Nat.le_of_lt hD.hp, Nat.le_of_lt hD.he, hbel⟩
    ·rw [results_two rfl]
     have hld := run_loadVar_row (P := Tryz.prog) wf w.heap.size 25 25 #[.int .i64 0, .int .i64 pw, .slice (some ⟨gp, 0, none⟩) j j, .slice (some ⟨ge, 0, none⟩) j j] (0, 0) _ hrow Tryz.underlying25 rfl info_Rice
     simp [asAddr, Result.andThen, hld]
    ·show _ = Ending.returned (.tuple #[.agg #[.int .i64 0, .int .i64 pw, .slice (some ⟨gp, 0, none⟩) (chP F j).length j, .slice (some ⟨ge, 0, none⟩) (chE j).length j], .int .i64 ((chS F j : Nat) : Int)])
     rw [chP_len, chE_len]
    ·unfold IntsBlk; rw [hO gp (by have := hD.hp; omega)]; exact HC.out.bp
    ·unfold IntsBlk; rw [hO ge (by have := hD.he; omega)]; exact HC.out.be
end Go.Proofs.YthgpleelpeacjaaGreatDoor
