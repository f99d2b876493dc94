/- Own text: what was packed is unpacked as it was. the walk of the document's Unpack, what it keeps. what was unpacked is packed as it was. -/
import Derived.Test.YtaepgjheknkojaaG26x
import Derived.Test.YtaepgjheknkojaaG4x
namespace Go.Proofs.Ytaepgjheknkojaa
open Go.RowKit
set_option linter.unusedSimpArgs false
set_option linter.unusedVariables false

theorem takedrop {α : Type} (l : List α) (a n : Nat) : (l.take (a + n)).drop a = (l.drop a).take n := by
  rw [List.drop_take]
  congr 1
  omega
/-- The numbers of a packed PCM. -/
theorem num_packed (p : Pcm) (big uns : Bool) (hc : checkN p = 0) (i : Nat) (hi : i < lenP p * p.ch.toNat) :
    numI (textOf (packL p big uns (lenP p))) p.wd big uns i = (p.pl.getD (i % p.ch.toNat) []).getD (i / p.ch.toNat) 0 := by
  obtain ⟨hh, hlp, hpl⟩ := check_zero p hc
  obtain ⟨r1, r2, c1, c2, w1, w2, hlen⟩ := head_parts p hh
  obtain ⟨n1, n2, n3, n4⟩ := nby_range p.wd w1 w2
  have h0 : 0 < p.ch.toNat := by omega
  have hk : i % p.ch.toNat < p.ch.toNat := Nat.mod_lt _ h0
  have hq : i / p.ch.toNat < lenP p := (Nat.div_lt_iff_lt_mul h0).2 hi
  have hs : sampB ((p.pl.getD (i % p.ch.toNat) []).getD (i / p.ch.toNat) 0) p.wd = true := by
    have h1 := hpl (i % p.ch.toNat) (by omega)
    unfold planeB at h1
    obtain ⟨h2, h3⟩ := Bool.and_eq_true_iff.1 h1
    have h4 := of_decide_eq_true h2
    rw [List.all_eq_true] at h3
    apply h3
    rw [List.getD_eq_getElem?_getD (l := p.pl.getD (i % p.ch.toNat) []), List.getElem?_eq_getElem (by omega)]
    exact List.getElem_mem _
  have hb : bytesOf ((textOf (packL p big uns (lenP p))).extract (i * nby p.wd) (i * nby p.wd + nby p.wd)) = codeL big p.wd uns ((p.pl.getD (i % p.ch.toNat) []).getD (i / p.ch.toNat) 0) := by
    rw [bytesOf_extract, bytesOf_textOf _ (packL_lt p big uns _), takedrop]
    have e1 := chunk (fun j => frameL p big uns j p.ch.toNat) (p.ch.toNat * nby p.wd) (fun j => frameL_length p big uns j _) (lenP p) (i / p.ch.toNat) hq
    have e2 := chunk (fun c => codeL big p.wd uns ((p.pl.getD c []).getD (i / p.ch.toNat) 0)) (nby p.wd) (fun j => codeL_length big p.wd uns _) p.ch.toNat (i % p.ch.toNat) hk
    have e3 : i * nby p.wd = i / p.ch.toNat * (p.ch.toNat * nby p.wd) + i % p.ch.toNat * nby p.wd := by
      rw [← Nat.mul_assoc, ← Nat.add_mul]
      congr 1
      exact (Nat.div_add_mod' i _).symm
    have e4 : nby p.wd ≤ p.ch.toNat * nby p.wd - i % p.ch.toNat * nby p.wd := by
      have : (i % p.ch.toNat + 1) * nby p.wd ≤ p.ch.toNat * nby p.wd := Nat.mul_le_mul_right _ (by omega)
      rw [Nat.succ_mul] at this
      omega
    rw [e3, ← List.drop_drop]
    have e5 : ((packL p big uns (lenP p)).drop (i / p.ch.toNat * (p.ch.toNat * nby p.wd))).take (p.ch.toNat * nby p.wd) = frameL p big uns (i / p.ch.toNat) p.ch.toNat := e1
    have e6 : (((((packL p big uns (lenP p)).drop (i / p.ch.toNat * (p.ch.toNat * nby p.wd))).take (p.ch.toNat * nby p.wd)).drop (i % p.ch.toNat * nby p.wd)).take (nby p.wd)) = codeL big p.wd uns ((p.pl.getD (i % p.ch.toNat) []).getD (i / p.ch.toNat) 0) := by
      rw [e5]
      exact e2
    rw [List.drop_take, List.take_take, Nat.min_eq_left e4] at e6
    exact e6
  obtain ⟨g1, g2, g3⟩ := codeN_fits p.wd uns ((p.pl.getD (i % p.ch.toNat) []).getD (i / p.ch.toNat) 0) w1 w2 hs
  have hm : mOf (textOf (packL p big uns (lenP p))) (nby p.wd) big i = (codeN p.wd uns ((p.pl.getD (i % p.ch.toNat) []).getD (i / p.ch.toNat) 0)).toNat := by
    have hf : (codeN p.wd uns ((p.pl.getD (i % p.ch.toNat) []).getD (i / p.ch.toNat) 0)).toNat < 256 ^ nby p.wd := by
      have e : (256 : Int) ^ nby p.wd = ((256 ^ nby p.wd : Nat) : Int) := by simp
      rw [e] at g2
      omega
    unfold mOf
    rw [hb]
    unfold codeL
    cases big
    · simp only [Bool.false_eq_true, if_false]
      rw [highL_low, val_highL, Nat.mod_eq_of_lt hf]
    · simp only [if_true]
      rw [val_highL, Nat.mod_eq_of_lt hf]
  unfold numI
  rw [hm]
  exact decN_codeN p.wd uns _ w1 w2 hs

theorem packed_size (p : Pcm) (big uns : Bool) : (textOf (packL p big uns (lenP p))).size = lenP p * (p.ch.toNat * nby p.wd) := by rw [textOf_size, packL_length]

theorem list_ext {α : Type} (l m : List α) (d : α) (hl : l.length = m.length) (h : ∀ k, k < l.length → l.getD k d = m.getD k d) : l = m := by
  apply List.ext_getElem hl
  intro k h1 h2
  have := h k h1
  rwa [List.getD_eq_getElem?_getD, List.getD_eq_getElem?_getD, List.getElem?_eq_getElem h1, List.getElem?_eq_getElem h2] at this

/-- What was packed is unpacked as it was. -/
theorem unpack_pack (p : Pcm) (big uns : Bool) (hc : checkN p = 0) :
    unpE (textOf (packL p big uns (lenP p))) p.rate p.ch p.wd big uns = 0 ∧ unpP (textOf (packL p big uns (lenP p))) p.rate p.ch p.wd big uns = p := by
  obtain ⟨hh, hlp, hpl⟩ := check_zero p hc
  obtain ⟨r1, r2, c1, c2, w1, w2, hlen⟩ := head_parts p hh
  obtain ⟨n1, n2, n3, n4⟩ := nby_range p.wd w1 w2
  have h0 : 0 < p.ch.toNat := by omega
  have hsz := packed_size p big uns
  have hp0 : 0 < nby p.wd * p.ch.toNat := Nat.mul_pos (by omega) h0
  have hsz2 : (textOf (packL p big uns (lenP p))).size = lenP p * (nby p.wd * p.ch.toNat) := by rw [hsz, Nat.mul_comm p.ch.toNat]
  have hq : (textOf (packL p big uns (lenP p))).size / (nby p.wd * p.ch.toNat) = lenP p := by rw [hsz2, Nat.mul_div_cancel _ hp0]
  have hK : (textOf (packL p big uns (lenP p))).size / nby p.wd = lenP p * p.ch.toNat := by rw [hsz, ← Nat.mul_assoc, Nat.mul_div_cancel _ (by omega)]
  have hplane : ∀ k, k < p.pl.length → (p.pl.getD k []).length = lenP p ∧ ∀ i, i < lenP p → sampB ((p.pl.getD k []).getD i 0) p.wd = true := fun k hk => by
    have := hpl k hk
    unfold planeB at this
    obtain ⟨h1, h2⟩ := Bool.and_eq_true_iff.1 this
    have h3 := of_decide_eq_true h1
    refine ⟨h3, fun i hi => ?_⟩
    rw [List.all_eq_true] at h2
    apply h2
    rw [List.getD_eq_getElem?_getD (l := p.pl.getD k []), List.getElem?_eq_getElem (by omega)]
    exact List.getElem_mem _
  have hE : unpE (textOf (packL p big uns (lenP p))) p.rate p.ch p.wd big uns = 0 := by
    unfold unpE
    have hu : uheadB p.rate p.ch p.wd = true := decide_eq_true ⟨r1, r2, c1, c2, w1, w2⟩
    rw [hu, if_pos rfl, if_pos (by rw [hsz2, Nat.mul_mod_left]), hq, if_neg (by omega), hK, if_pos]
    intro i hi
    rw [num_packed p big uns hc i hi]
    exact (hplane (i % p.ch.toNat) (by have := Nat.mod_lt i h0; omega)).2 _ ((Nat.div_lt_iff_lt_mul h0).2 hi)
  refine ⟨hE, ?_⟩
  unfold unpP
  rw [if_pos hE, hK]
  have hl : upL (textOf (packL p big uns (lenP p))) p.wd big uns p.ch.toNat (lenP p * p.ch.toNat) = p.pl := by
    have hul := upL_length (textOf (packL p big uns (lenP p))) p.wd big uns p.ch.toNat (lenP p * p.ch.toNat)
    refine list_ext _ _ [] (by omega) (fun k hk => ?_)
    have hk2 : k < p.ch.toNat := by omega
    obtain ⟨g1, _⟩ := hplane k (by omega)
    rw [upL_full _ _ _ _ _ _ h0 k hk2]
    refine list_ext _ _ 0 (by rw [List.length_map, List.length_range, g1]) (fun j hj => ?_)
    rw [List.length_map, List.length_range] at hj
    rw [List.getD_eq_getElem?_getD, List.getElem?_map, List.getElem?_range hj, Option.map_some, Option.getD_some]
    have hjk : j * p.ch.toNat + k < lenP p * p.ch.toNat := by
      have : (j + 1) * p.ch.toNat ≤ lenP p * p.ch.toNat := Nat.mul_le_mul_right _ (by omega)
      rw [Nat.succ_mul] at this
      omega
    have e1 : (j * p.ch.toNat + k) % p.ch.toNat = k := by rw [Nat.mul_add_mod_self_right, Nat.mod_eq_of_lt hk2]
    have e2 : (j * p.ch.toNat + k) / p.ch.toNat = j := by rw [Nat.mul_comm, Nat.mul_add_div h0, Nat.div_eq_of_lt hk2, Nat.add_zero]
    rw [num_packed p big uns hc _ hjk, e1, e2]
  rw [hl]

end Go.Proofs.Ytaepgjheknkojaa

namespace Go.Proofs.Ytaepgjheknkojaa
open Go.RowKit
set_option linter.unusedSimpArgs false
set_option linter.unusedVariables false

/-- On the way through Unpack's loop. -/
structure Up (w0 : World) (big uns : Bool) (rate ch wd : Int) (C : Nat) (vs : List Value) (xs : List (List Int)) (w : World) : Prop where
  lay : w.heap[w0.heap.size]? = some (.cells #[.bool big, .bool uns] 52 (0, 0))
  res : w.heap[w0.heap.size + 1]? = some (.cells zeroP 24 (0, 0))
  q : w.heap[w0.heap.size + 3]? = some (.cells #[.int .i64 rate, .int .i64 ch, .int .i64 wd, .slice (some ⟨w0.heap.size + 2, 0, none⟩) C C] 24 (0, 0))
  mat : OwnMat 62 (w0.heap.size + 2) w (.slice (some ⟨w0.heap.size + 2, 0, none⟩) C C) vs xs
  len : xs.length = C
  far : ∀ k, k < xs.length → (vs.getD k noS).ownBlock ≠ some (w0.heap.size + 3)
  size : w0.heap.size + 4 ≤ w.heap.size
  below : Below w0.heap.size w0 w
section
variable {w0 w w' : World} {big uns : Bool} {rate ch wd : Int} {C : Nat} {vs : List Value} {xs : List (List Int)}
theorem Up.next (h : Up w0 big uns rate ch wd C vs xs w) (hB : Below w.heap.size w w') : Up w0 big uns rate ch wd C vs xs w' :=
  ⟨by rw [hB.block _ (lt_of_block h.lay)]; exact h.lay, by rw [hB.block _ (lt_of_block h.res)]; exact h.res, by rw [hB.block _ (lt_of_block h.q)]; exact h.q, h.mat.next hB, h.len, h.far, Nat.le_trans h.size hB.size, h.below.trans (hB.mono h.below.size)⟩
theorem Up.drew (h : Up w0 big uns rate ch wd C vs xs w) : Up w0 big uns rate ch wd C vs xs w.drew := h.next ⟨rfl, rfl, rfl, Nat.le_refl _, fun _ _ => rfl⟩
theorem Up.un (h : Up w0 big uns rate ch wd C vs xs w) : Un w0 big uns w := ⟨h.lay, h.res, h.below⟩
theorem Up.l0 (h : Up w0 big uns rate ch wd C vs xs w) : w.cell? ⟨w0.heap.size, 0, none⟩ = some (.bool big) := by rw [cell_of_row _ _ _ _ _ _ h.lay]; rfl
theorem Up.l1 (h : Up w0 big uns rate ch wd C vs xs w) : w.cell? ⟨w0.heap.size, 1, none⟩ = some (.bool uns) := by rw [cell_of_row _ _ _ _ _ _ h.lay]; rfl
theorem Up.q3 (h : Up w0 big uns rate ch wd C vs xs w) : w.cell? ⟨w0.heap.size + 3, 3, none⟩ = some (.slice (some ⟨w0.heap.size + 2, 0, none⟩) C C) := by rw [cell_of_row _ _ _ _ _ _ h.q]; rfl
theorem Up.row (h : Up w0 big uns rate ch wd C vs xs w) (k : Nat) (hk : k < C) : w.cell? ⟨w0.heap.size + 2, k, none⟩ = some (vs.getD k noS) ∧ w.frozen? ⟨w0.heap.size + 2, k, none⟩ = false := by
  have hl := h.len
  have ho := h.mat.outer
  rw [hl] at ho
  have hv := h.mat.vlen
  constructor
  · rw [ho.cellAt k (by omega), List.getD_eq_getElem?_getD, List.getElem?_eq_getElem (by omega)]
    rfl
  · exact ho.frozenAt k
/-- One number more. -/
theorem Up.push {w1 : World} {u' : Value} {x : Int} (h : Up w0 big uns rate ch wd C vs xs w) (k : Nat) (hk : k < C) (hg : w.grownBy w1 (vs.getD k noS).ownBlock)
    (hu : w1.ownsRow (w0.heap.size + 2) 3 1 u' ((xs.getD k []).length + 1) (intsC (xs.getD k []) ++ [.int .i64 x])) (hb : u'.ownBlock = (vs.getD k noS).ownBlock ∨ u'.ownBlock = some w.heap.size) :
    Up w0 big uns rate ch wd C (vs.set k u') (xs.set k (xs.getD k [] ++ [x])) (w1.setCell ⟨w0.heap.size + 2, k, none⟩ u') := by
  have hl := h.len
  have hsz := h.size
  have hne : ∀ j, j < w0.heap.size + 4 → some j ≠ (vs.getD k noS).ownBlock ∨ j = w0.heap.size + 2 := fun j hj => by
    by_cases e : j = w0.heap.size + 2
    · exact .inr e
    · refine .inl (fun q => ?_)
      by_cases e3 : j = w0.heap.size + 3
      · exact h.far k (by omega) (by rw [← q, e3])
      · have := ((h.mat.inner k (by omega)).lt j q.symm).1
        omega
  have hkeep : ∀ j, j < w0.heap.size + 4 → j ≠ w0.heap.size + 2 → w1.heap[j]? = w.heap[j]? := fun j hj hj2 => hg.block j (by omega) (by
    rcases hne j hj with q | q
    · exact q
    · exact absurd q hj2)
  have hu2 : w1.ownsRow (w0.heap.size + 2) 3 1 u' (xs.getD k [] ++ [x]).length (intsC (xs.getD k [] ++ [x])) := by
    rw [List.length_append, intsC_append]
    exact hu
  have hm := h.mat.set k (by omega) hg hu2 hb (w0.heap.size + 2) C (by rw [hl])
  refine ⟨?_, ?_, ?_, hm, by rw [List.length_set]; exact hl, fun j hj => ?_, by simpa [World.setCell] using Nat.le_trans hsz hg.size, ?_⟩
  · rw [Below.heap_setCell _ _ _ _ (by simp), hkeep _ (by omega) (by omega)]
    exact h.lay
  · rw [Below.heap_setCell _ _ _ _ (by simp), hkeep _ (by omega) (by omega)]
    exact h.res
  · rw [Below.heap_setCell _ _ _ _ (by simp), hkeep _ (by omega) (by omega)]
    exact h.q
  · rw [List.length_set] at hj
    have hv := h.mat.vlen
    by_cases e : k = j
    · subst e
      rw [getD_set_eq _ _ _ _ (by omega)]
      rcases hb with q | q
      · rw [q]
        exact h.far k hj
      · rw [q]
        intro q2
        have := Option.some.inj q2
        omega
    · rw [getD_set_ne _ _ _ _ _ e]
      exact h.far j hj
  · refine Below.setCell ?_ (by simp) _
    exact grown_to hg h.below (by omega) (fun j q => by have := ((h.mat.inner k (by omega)).lt j q).1; omega)
end

theorem bytesOf_ext (s : ByteArray) (a b : Nat) (h1 : a ≤ b) (h2 : b ≤ s.size) : (s.extract a b).size = b - a := by
  rw [ByteArray.size_extract]
  omega
theorem mOf_lt (s : ByteArray) (nb : Nat) (big : Bool) (i : Nat) (h : i * nb + nb ≤ s.size) : mOf s nb big i < 256 ^ nb := by
  have hl : (bytesOf (s.extract (i * nb) (i * nb + nb))).length = nb := by
    rw [bytesOf_length, bytesOf_ext _ _ _ (by omega) h]
    omega
  unfold mOf
  split
  · have := val_lt _ (bytesOf_lt (s.extract (i * nb) (i * nb + nb)))
    rwa [hl] at this
  · have := val_lt (bytesOf (s.extract (i * nb) (i * nb + nb))).reverse (fun b hb => bytesOf_lt _ b (List.mem_reverse.1 hb))
    rwa [List.length_reverse, hl] at this

end Go.Proofs.Ytaepgjheknkojaa

namespace Go.Proofs.Ytaepgjheknkojaa
open Go.RowKit
set_option linter.unusedSimpArgs false
set_option linter.unusedVariables false

theorem flat_congr {α : Type} (f g : Nat → List α) : ∀ n, (∀ j, j < n → f j = g j) → (List.range n).flatMap f = (List.range n).flatMap g
  | 0, _ => rfl
  | n + 1, h => by
    rw [List.range_succ, List.flatMap_append, List.flatMap_append, flat_congr f g n (fun j hj => h j (by omega))]
    congr 1
    simp only [List.flatMap_cons, List.flatMap_nil, List.append_nil]
    exact h n (by omega)
theorem flat_take {α : Type} (l : List α) (L : Nat) : ∀ n, (List.range n).flatMap (fun j => (l.drop (j * L)).take L) = l.take (n * L)
  | 0 => by simp
  | n + 1 => by
    rw [List.range_succ, List.flatMap_append, flat_take l L n, Nat.succ_mul, List.take_add]
    simp only [List.flatMap_cons, List.flatMap_nil, List.append_nil]
theorem high_val_rev : ∀ l : List Nat, (∀ b ∈ l, b < 256) → highL (val l.reverse) l.length = l.reverse
  | [], _ => rfl
  | b :: t, h => by
    have hb : b < 256 := h b (by simp)
    rw [List.reverse_cons, val_snoc, List.length_cons, highL_succ]
    have e1 : (val t.reverse * 256 + b) / 256 = val t.reverse := by omega
    have e2 : (val t.reverse * 256 + b) % 256 = b := by omega
    rw [e1, e2, high_val_rev t (fun x hx => h x (by simp [hx]))]
theorem high_val (l : List Nat) (n : Nat) (hn : l.length = n) (h : ∀ b ∈ l, b < 256) : highL (val l) n = l := by
  have := high_val_rev l.reverse (fun b hb => h b (List.mem_reverse.1 hb))
  rwa [List.reverse_reverse, List.length_reverse, hn] at this
theorem codeN_decN (wd : Int) (uns : Bool) (m : Nat) (h4 : 4 ≤ wd) (h32 : wd ≤ 32) (hm : m < 256 ^ nby wd) : codeN wd uns (decN wd uns m) = (m : Int) := by
  obtain ⟨n1, n2, n3, n4⟩ := nby_range wd h4 h32
  have hkw : (wd - 1).toNat = wd.toNat - 1 := by omega
  rw [← pow256] at hm
  unfold codeN decN
  rw [hkw]
  rw [pow_eq (8 * nby wd), pow_eq (8 * nby wd - 1), pow_eq]
  generalize (2 : Nat) ^ (wd.toNat - 1) = H at *
  generalize (2 : Nat) ^ (8 * nby wd - 1) = G at *
  generalize (2 : Nat) ^ (8 * nby wd) = M at *
  cases uns
  · simp only [Bool.false_eq_true, if_false]
    by_cases e : (G : Int) ≤ (m : Int)
    · rw [if_pos e, if_pos (by omega)]
      omega
    · rw [if_neg e, if_neg (by omega)]
  · simp only [if_true]
    omega
/-- A number's code is the bytes that it was read from. -/
theorem code_num (s : ByteArray) (wd : Int) (big uns : Bool) (i : Nat) (h4 : 4 ≤ wd) (h32 : wd ≤ 32) (hi : i * nby wd + nby wd ≤ s.size) : codeL big wd uns (numI s wd big uns i) = ((bytesOf s).drop (i * nby wd)).take (nby wd) := by
  have hlt := mOf_lt s (nby wd) big i hi
  have hc := codeN_decN wd uns (mOf s (nby wd) big i) h4 h32 hlt
  have hb : bytesOf (s.extract (i * nby wd) (i * nby wd + nby wd)) = ((bytesOf s).drop (i * nby wd)).take (nby wd) := by rw [bytesOf_extract, takedrop]
  have hl : (((bytesOf s).drop (i * nby wd)).take (nby wd)).length = nby wd := by
    rw [List.length_take, List.length_drop, bytesOf_length]
    omega
  have h256 : ∀ b ∈ ((bytesOf s).drop (i * nby wd)).take (nby wd), b < 256 := fun b hx => bytesOf_lt s b (List.mem_of_mem_drop (List.mem_of_mem_take hx))
  unfold codeL numI
  rw [hc, Int.toNat_natCast]
  unfold mOf
  rw [hb]
  cases big
  · simp only [Bool.false_eq_true, if_false]
    rw [← lowL_reverse, high_val _ _ (by rw [List.length_reverse, hl]) (fun b hx => h256 b (List.mem_reverse.1 hx)), List.reverse_reverse]
  · simp only [if_true]
    exact high_val _ _ hl h256
/-- What was unpacked may be, and is packed as it was. -/
theorem pack_unpack (s : ByteArray) (rate ch wd : Int) (big uns : Bool) (he : unpE s rate ch wd big uns = 0) :
    checkN (unpP s rate ch wd big uns) = 0 ∧ textOf (packL (unpP s rate ch wd big uns) big uns (lenP (unpP s rate ch wd big uns))) = s := by
  have hp : unpP s rate ch wd big uns = ⟨rate, ch, wd, upL s wd big uns ch.toNat (s.size / nby wd)⟩ := by unfold unpP; rw [if_pos he]
  unfold unpE at he
  by_cases hu : uheadB rate ch wd = true
  case neg => rw [if_neg hu] at he; exact absurd he (by decide)
  rw [if_pos hu] at he
  by_cases hm : s.size % (nby wd * ch.toNat) = 0
  case neg => rw [if_neg hm] at he; exact absurd he (by decide)
  rw [if_pos hm] at he
  by_cases h5 : 1048576 < s.size / (nby wd * ch.toNat)
  case pos => rw [if_pos h5] at he; exact absurd he (by decide)
  rw [if_neg h5] at he
  by_cases hall : ∀ i, i < s.size / nby wd → sampB (numI s wd big uns i) wd = true
  case neg => rw [if_neg hall] at he; exact absurd he (by decide)
  obtain ⟨r1, r2, c1, c2, w1, w2⟩ : 1 ≤ rate ∧ rate ≤ 655350 ∧ 1 ≤ ch ∧ ch ≤ 8 ∧ 4 ≤ wd ∧ wd ≤ 32 := of_decide_eq_true hu
  obtain ⟨n1, n2, n3, n4⟩ := nby_range wd w1 w2
  have h0 : 0 < ch.toNat := by omega
  obtain ⟨n, hn⟩ : ∃ n, s.size / (nby wd * ch.toNat) = n := ⟨_, rfl⟩
  have hsz : s.size = n * (ch.toNat * nby wd) := by
    have := Nat.div_add_mod s.size (nby wd * ch.toNat)
    rw [hm, hn, Nat.add_zero] at this
    rw [← this, Nat.mul_comm, Nat.mul_comm ch.toNat]
  have hK : s.size / nby wd = n * ch.toNat := by rw [hsz, ← Nat.mul_assoc, Nat.mul_div_cancel _ (by omega)]
  rw [hK] at hp hall
  have hplane : ∀ k, k < ch.toNat → (upL s wd big uns ch.toNat (n * ch.toNat)).getD k [] = (List.range n).map fun q => numI s wd big uns (q * ch.toNat + k) := fun k hk => upL_full s wd big uns ch.toNat n h0 k hk
  have hul := upL_length s wd big uns ch.toNat (n * ch.toNat)
  have hln : lenP ⟨rate, ch, wd, upL s wd big uns ch.toNat (n * ch.toNat)⟩ = n := by
    unfold lenP
    rw [hplane 0 h0, List.length_map, List.length_range]
  have hjk : ∀ j k, j < n → k < ch.toNat → j * ch.toNat + k < n * ch.toNat := fun j k hj hk => by
    have : (j + 1) * ch.toNat ≤ n * ch.toNat := Nat.mul_le_mul_right _ (by omega)
    rw [Nat.succ_mul] at this
    omega
  rw [hp]
  constructor
  · unfold checkN
    rw [hln, if_pos, if_neg (by omega)]
    rw [Bool.and_eq_true_iff]
    constructor
    · exact decide_eq_true ⟨r1, r2, c1, c2, w1, w2, by show ((upL s wd big uns ch.toNat (n * ch.toNat)).length : Int) = ch; omega⟩
    · rw [List.all_eq_true]
      intro x hx
      obtain ⟨k, hk, rfl⟩ := List.getElem_of_mem hx
      have hk2 : k < ch.toNat := by
        have : k < (upL s wd big uns ch.toNat (n * ch.toNat)).length := hk
        omega
      have e : (upL s wd big uns ch.toNat (n * ch.toNat))[k]'hk = (List.range n).map fun q => numI s wd big uns (q * ch.toNat + k) := by
        rw [← hplane k hk2, List.getD_eq_getElem?_getD, List.getElem?_eq_getElem hk]
        rfl
      unfold planeB
      show (decide (((upL s wd big uns ch.toNat (n * ch.toNat))[k]'hk).length = _) && ((upL s wd big uns ch.toNat (n * ch.toNat))[k]'hk).all _) = true
      rw [e, hln, Bool.and_eq_true_iff]
      refine ⟨decide_eq_true (by rw [List.length_map, List.length_range]), ?_⟩
      rw [List.all_eq_true]
      intro y hy
      obtain ⟨q, hq, rfl⟩ := List.mem_map.1 hy
      exact hall _ (hjk q k (List.mem_range.1 hq) hk2)
  · rw [hln]
    have e : packL ⟨rate, ch, wd, upL s wd big uns ch.toNat (n * ch.toNat)⟩ big uns n = bytesOf s := by
      have e1 : packL ⟨rate, ch, wd, upL s wd big uns ch.toNat (n * ch.toNat)⟩ big uns n = (List.range n).flatMap (fun j => ((bytesOf s).drop (j * (ch.toNat * nby wd))).take (ch.toNat * nby wd)) := by
        unfold packL
        refine flat_congr _ _ n (fun j hj => ?_)
        rw [← flat_take]
        unfold frameL
        refine flat_congr _ _ ch.toNat (fun c hc => ?_)
        show codeL big wd uns (((upL s wd big uns ch.toNat (n * ch.toNat)).getD c []).getD j 0) = _
        rw [hplane c hc, List.getD_eq_getElem?_getD, List.getElem?_map, List.getElem?_range hj, Option.map_some, Option.getD_some, code_num s wd big uns _ w1 w2, List.drop_drop]
        · congr 2
          rw [Nat.add_mul, Nat.mul_assoc]
        · have := Nat.mul_le_mul_right (nby wd) (hjk j c hj hc)
          rw [Nat.succ_mul] at this
          rw [hsz, ← Nat.mul_assoc]
          exact this
      rw [e1, flat_take, ← hsz]
      exact List.take_of_length_le (by rw [bytesOf_length]; exact Nat.le_refl _)
    rw [e, textOf_bytesOf]

end Go.Proofs.Ytaepgjheknkojaa
