/- Own text: what was packed is unpacked as it was. -/
import Derived.Test.YtolmijpecomkcaaP5back
import Derived.Test.YtolmijpecomkcaaG1
namespace Go.Proofs.Ytolmijpecomkcaa
open Go.RowKit
set_option linter.unusedSimpArgs false
set_option linter.unusedVariables false

theorem takedrop {α : Type} (l : List α) (a n : Nat) : (l.take (a + n)).drop a = (l.drop a).take n := by
  rw [List.drop_take]
  congr 1
  omega
/-- The numbers of a packed PCM. -/
theorem num_packed (p : Pcm) (big uns : Bool) (hc : checkN p = 0) (i : Nat) (hi : i < lenP p * p.ch.toNat) :
    numI (textOf (packL p big uns (lenP p))) p.wd big uns i = (p.pl.getD (i % p.ch.toNat) []).getD (i / p.ch.toNat) 0 := by
  obtain ⟨hh, hlp, hpl⟩ := check_zero p hc
  obtain ⟨r1, r2, c1, c2, w1, w2, hlen⟩ := head_parts p hh
  obtain ⟨n1, n2, n3, n4⟩ := nby_range p.wd w1 w2
  have h0 : 0 < p.ch.toNat := by omega
  have hk : i % p.ch.toNat < p.ch.toNat := Nat.mod_lt _ h0
  have hq : i / p.ch.toNat < lenP p := (Nat.div_lt_iff_lt_mul h0).2 hi
  have hs : sampB ((p.pl.getD (i % p.ch.toNat) []).getD (i / p.ch.toNat) 0) p.wd = true := by
    have h1 := hpl (i % p.ch.toNat) (by omega)
    unfold planeB at h1
    obtain ⟨h2, h3⟩ := Bool.and_eq_true_iff.1 h1
    have h4 := of_decide_eq_true h2
    rw [List.all_eq_true] at h3
    apply h3
    rw [List.getD_eq_getElem?_getD (l := p.pl.getD (i % p.ch.toNat) []), List.getElem?_eq_getElem (by omega)]
    exact List.getElem_mem _
  have hb : bytesOf ((textOf (packL p big uns (lenP p))).extract (i * nby p.wd) (i * nby p.wd + nby p.wd)) = codeL big p.wd uns ((p.pl.getD (i % p.ch.toNat) []).getD (i / p.ch.toNat) 0) := by
    rw [bytesOf_extract, bytesOf_textOf _ (packL_lt p big uns _), takedrop]
    have e1 := chunk (fun j => frameL p big uns j p.ch.toNat) (p.ch.toNat * nby p.wd) (fun j => frameL_length p big uns j _) (lenP p) (i / p.ch.toNat) hq
    have e2 := chunk (fun c => codeL big p.wd uns ((p.pl.getD c []).getD (i / p.ch.toNat) 0)) (nby p.wd) (fun j => codeL_length big p.wd uns _) p.ch.toNat (i % p.ch.toNat) hk
    have e3 : i * nby p.wd = i / p.ch.toNat * (p.ch.toNat * nby p.wd) + i % p.ch.toNat * nby p.wd := by
      rw [← Nat.mul_assoc, ← Nat.add_mul]
      congr 1
      exact (Nat.div_add_mod' i _).symm
    have e4 : nby p.wd ≤ p.ch.toNat * nby p.wd - i % p.ch.toNat * nby p.wd := by
      have : (i % p.ch.toNat + 1) * nby p.wd ≤ p.ch.toNat * nby p.wd := Nat.mul_le_mul_right _ (by omega)
      rw [Nat.succ_mul] at this
      omega
    rw [e3, ← List.drop_drop]
    have e5 : ((packL p big uns (lenP p)).drop (i / p.ch.toNat * (p.ch.toNat * nby p.wd))).take (p.ch.toNat * nby p.wd) = frameL p big uns (i / p.ch.toNat) p.ch.toNat := e1
    have e6 : (((((packL p big uns (lenP p)).drop (i / p.ch.toNat * (p.ch.toNat * nby p.wd))).take (p.ch.toNat * nby p.wd)).drop (i % p.ch.toNat * nby p.wd)).take (nby p.wd)) = codeL big p.wd uns ((p.pl.getD (i % p.ch.toNat) []).getD (i / p.ch.toNat) 0) := by
      rw [e5]
      exact e2
    rw [List.drop_take, List.take_take, Nat.min_eq_left e4] at e6
    exact e6
  obtain ⟨g1, g2, g3⟩ := codeN_fits p.wd uns ((p.pl.getD (i % p.ch.toNat) []).getD (i / p.ch.toNat) 0) w1 w2 hs
  have hm : mOf (textOf (packL p big uns (lenP p))) (nby p.wd) big i = (codeN p.wd uns ((p.pl.getD (i % p.ch.toNat) []).getD (i / p.ch.toNat) 0)).toNat := by
    have hf : (codeN p.wd uns ((p.pl.getD (i % p.ch.toNat) []).getD (i / p.ch.toNat) 0)).toNat < 256 ^ nby p.wd := by
      have e : (256 : Int) ^ nby p.wd = ((256 ^ nby p.wd : Nat) : Int) := by simp
      rw [e] at g2
      omega
    unfold mOf
    rw [hb]
    unfold codeL
    cases big
    · simp only [Bool.false_eq_true, if_false]
      rw [highL_low, val_highL, Nat.mod_eq_of_lt hf]
    · simp only [if_true]
      rw [val_highL, Nat.mod_eq_of_lt hf]
  unfold numI
  rw [hm]
  exact decN_codeN p.wd uns _ w1 w2 hs

theorem packed_size (p : Pcm) (big uns : Bool) : (textOf (packL p big uns (lenP p))).size = lenP p * (p.ch.toNat * nby p.wd) := by rw [textOf_size, packL_length]

theorem list_ext {α : Type} (l m : List α) (d : α) (hl : l.length = m.length) (h : ∀ k, k < l.length → l.getD k d = m.getD k d) : l = m := by
  apply List.ext_getElem hl
  intro k h1 h2
  have := h k h1
  rwa [List.getD_eq_getElem?_getD, List.getD_eq_getElem?_getD, List.getElem?_eq_getElem h1, List.getElem?_eq_getElem h2] at this

/-- What was packed is unpacked as it was. -/
theorem unpack_pack (p : Pcm) (big uns : Bool) (hc : checkN p = 0) :
    unpE (textOf (packL p big uns (lenP p))) p.rate p.ch p.wd big uns = 0 ∧ unpP (textOf (packL p big uns (lenP p))) p.rate p.ch p.wd big uns = p := by
  obtain ⟨hh, hlp, hpl⟩ := check_zero p hc
  obtain ⟨r1, r2, c1, c2, w1, w2, hlen⟩ := head_parts p hh
  obtain ⟨n1, n2, n3, n4⟩ := nby_range p.wd w1 w2
  have h0 : 0 < p.ch.toNat := by omega
  have hsz := packed_size p big uns
  have hp0 : 0 < nby p.wd * p.ch.toNat := Nat.mul_pos (by omega) h0
  have hsz2 : (textOf (packL p big uns (lenP p))).size = lenP p * (nby p.wd * p.ch.toNat) := by rw [hsz, Nat.mul_comm p.ch.toNat]
  have hq : (textOf (packL p big uns (lenP p))).size / (nby p.wd * p.ch.toNat) = lenP p := by rw [hsz2, Nat.mul_div_cancel _ hp0]
  have hK : (textOf (packL p big uns (lenP p))).size / nby p.wd = lenP p * p.ch.toNat := by rw [hsz, ← Nat.mul_assoc, Nat.mul_div_cancel _ (by omega)]
  have hplane : ∀ k, k < p.pl.length → (p.pl.getD k []).length = lenP p ∧ ∀ i, i < lenP p → sampB ((p.pl.getD k []).getD i 0) p.wd = true := fun k hk => by
    have := hpl k hk
    unfold planeB at this
    obtain ⟨h1, h2⟩ := Bool.and_eq_true_iff.1 this
    have h3 := of_decide_eq_true h1
    refine ⟨h3, fun i hi => ?_⟩
    rw [List.all_eq_true] at h2
    apply h2
    rw [List.getD_eq_getElem?_getD (l := p.pl.getD k []), List.getElem?_eq_getElem (by omega)]
    exact List.getElem_mem _
  have hE : unpE (textOf (packL p big uns (lenP p))) p.rate p.ch p.wd big uns = 0 := by
    unfold unpE
    have hu : uheadB p.rate p.ch p.wd = true := decide_eq_true ⟨r1, r2, c1, c2, w1, w2⟩
    rw [hu, if_pos rfl, if_pos (by rw [hsz2, Nat.mul_mod_left]), hq, if_neg (by omega), hK, if_pos]
    intro i hi
    rw [num_packed p big uns hc i hi]
    exact (hplane (i % p.ch.toNat) (by have := Nat.mod_lt i h0; omega)).2 _ ((Nat.div_lt_iff_lt_mul h0).2 hi)
  refine ⟨hE, ?_⟩
  unfold unpP
  rw [if_pos hE, hK]
  have hl : upL (textOf (packL p big uns (lenP p))) p.wd big uns p.ch.toNat (lenP p * p.ch.toNat) = p.pl := by
    have hul := upL_length (textOf (packL p big uns (lenP p))) p.wd big uns p.ch.toNat (lenP p * p.ch.toNat)
    refine list_ext _ _ [] (by omega) (fun k hk => ?_)
    have hk2 : k < p.ch.toNat := by omega
    obtain ⟨g1, _⟩ := hplane k (by omega)
    rw [upL_full _ _ _ _ _ _ h0 k hk2]
    refine list_ext _ _ 0 (by rw [List.length_map, List.length_range, g1]) (fun j hj => ?_)
    rw [List.length_map, List.length_range] at hj
    rw [List.getD_eq_getElem?_getD, List.getElem?_map, List.getElem?_range hj, Option.map_some, Option.getD_some]
    have hjk : j * p.ch.toNat + k < lenP p * p.ch.toNat := by
      have : (j + 1) * p.ch.toNat ≤ lenP p * p.ch.toNat := Nat.mul_le_mul_right _ (by omega)
      rw [Nat.succ_mul] at this
      omega
    have e1 : (j * p.ch.toNat + k) % p.ch.toNat = k := by rw [Nat.mul_add_mod_self_right, Nat.mod_eq_of_lt hk2]
    have e2 : (j * p.ch.toNat + k) / p.ch.toNat = j := by rw [Nat.mul_comm, Nat.mul_add_div h0, Nat.div_eq_of_lt hk2, Nat.add_zero]
    rw [num_packed p big uns hc _ hjk, e1, e2]
  rw [hl]

end Go.Proofs.Ytolmijpecomkcaa
