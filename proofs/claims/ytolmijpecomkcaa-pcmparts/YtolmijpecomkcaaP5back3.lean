/- Own text: what was unpacked is packed as it was. -/
import Derived.Test.YtolmijpecomkcaaP5back2
import Derived.Test.YtolmijpecomkcaaP5unpack2
namespace Go.Proofs.Ytolmijpecomkcaa
open Go.RowKit
set_option linter.unusedSimpArgs false
set_option linter.unusedVariables false

theorem flat_congr {α : Type} (f g : Nat → List α) : ∀ n, (∀ j, j < n → f j = g j) → (List.range n).flatMap f = (List.range n).flatMap g
  | 0, _ => rfl
  | n + 1, h => by
    rw [List.range_succ, List.flatMap_append, List.flatMap_append, flat_congr f g n (fun j hj => h j (by omega))]
    congr 1
    simp only [List.flatMap_cons, List.flatMap_nil, List.append_nil]
    exact h n (by omega)
theorem flat_take {α : Type} (l : List α) (L : Nat) : ∀ n, (List.range n).flatMap (fun j => (l.drop (j * L)).take L) = l.take (n * L)
  | 0 => by simp
  | n + 1 => by
    rw [List.range_succ, List.flatMap_append, flat_take l L n, Nat.succ_mul, List.take_add]
    simp only [List.flatMap_cons, List.flatMap_nil, List.append_nil]
theorem high_val_rev : ∀ l : List Nat, (∀ b ∈ l, b < 256) → highL (val l.reverse) l.length = l.reverse
  | [], _ => rfl
  | b :: t, h => by
    have hb : b < 256 := h b (by simp)
    rw [List.reverse_cons, val_snoc, List.length_cons, highL_succ]
    have e1 : (val t.reverse * 256 + b) / 256 = val t.reverse := by omega
    have e2 : (val t.reverse * 256 + b) % 256 = b := by omega
    rw [e1, e2, high_val_rev t (fun x hx => h x (by simp [hx]))]
theorem high_val (l : List Nat) (n : Nat) (hn : l.length = n) (h : ∀ b ∈ l, b < 256) : highL (val l) n = l := by
  have := high_val_rev l.reverse (fun b hb => h b (List.mem_reverse.1 hb))
  rwa [List.reverse_reverse, List.length_reverse, hn] at this
theorem codeN_decN (wd : Int) (uns : Bool) (m : Nat) (h4 : 4 ≤ wd) (h32 : wd ≤ 32) (hm : m < 256 ^ nby wd) : codeN wd uns (decN wd uns m) = (m : Int) := by
  obtain ⟨n1, n2, n3, n4⟩ := nby_range wd h4 h32
  have hkw : (wd - 1).toNat = wd.toNat - 1 := by omega
  rw [← pow256] at hm
  unfold codeN decN
  rw [hkw]
  rw [pow_eq (8 * nby wd), pow_eq (8 * nby wd - 1), pow_eq]
  generalize (2 : Nat) ^ (wd.toNat - 1) = H at *
  generalize (2 : Nat) ^ (8 * nby wd - 1) = G at *
  generalize (2 : Nat) ^ (8 * nby wd) = M at *
  cases uns
  · simp only [Bool.false_eq_true, if_false]
    by_cases e : (G : Int) ≤ (m : Int)
    · rw [if_pos e, if_pos (by omega)]
      omega
    · rw [if_neg e, if_neg (by omega)]
  · simp only [if_true]
    omega
/-- A number's code is the bytes that it was read from. -/
theorem code_num (s : ByteArray) (wd : Int) (big uns : Bool) (i : Nat) (h4 : 4 ≤ wd) (h32 : wd ≤ 32) (hi : i * nby wd + nby wd ≤ s.size) : codeL big wd uns (numI s wd big uns i) = ((bytesOf s).drop (i * nby wd)).take (nby wd) := by
  have hlt := mOf_lt s (nby wd) big i hi
  have hc := codeN_decN wd uns (mOf s (nby wd) big i) h4 h32 hlt
  have hb : bytesOf (s.extract (i * nby wd) (i * nby wd + nby wd)) = ((bytesOf s).drop (i * nby wd)).take (nby wd) := by rw [bytesOf_extract, takedrop]
  have hl : (((bytesOf s).drop (i * nby wd)).take (nby wd)).length = nby wd := by
    rw [List.length_take, List.length_drop, bytesOf_length]
    omega
  have h256 : ∀ b ∈ ((bytesOf s).drop (i * nby wd)).take (nby wd), b < 256 := fun b hx => bytesOf_lt s b (List.mem_of_mem_drop (List.mem_of_mem_take hx))
  unfold codeL numI
  rw [hc, Int.toNat_natCast]
  unfold mOf
  rw [hb]
  cases big
  · simp only [Bool.false_eq_true, if_false]
    rw [← lowL_reverse, high_val _ _ (by rw [List.length_reverse, hl]) (fun b hx => h256 b (List.mem_reverse.1 hx)), List.reverse_reverse]
  · simp only [if_true]
    exact high_val _ _ hl h256
/-- What was unpacked may be, and is packed as it was. -/
theorem pack_unpack (s : ByteArray) (rate ch wd : Int) (big uns : Bool) (he : unpE s rate ch wd big uns = 0) :
    checkN (unpP s rate ch wd big uns) = 0 ∧ textOf (packL (unpP s rate ch wd big uns) big uns (lenP (unpP s rate ch wd big uns))) = s := by
  have hp : unpP s rate ch wd big uns = ⟨rate, ch, wd, upL s wd big uns ch.toNat (s.size / nby wd)⟩ := by unfold unpP; rw [if_pos he]
  unfold unpE at he
  by_cases hu : uheadB rate ch wd = true
  case neg => rw [if_neg hu] at he; exact absurd he (by decide)
  rw [if_pos hu] at he
  by_cases hm : s.size % (nby wd * ch.toNat) = 0
  case neg => rw [if_neg hm] at he; exact absurd he (by decide)
  rw [if_pos hm] at he
  by_cases h5 : 1048576 < s.size / (nby wd * ch.toNat)
  case pos => rw [if_pos h5] at he; exact absurd he (by decide)
  rw [if_neg h5] at he
  by_cases hall : ∀ i, i < s.size / nby wd → sampB (numI s wd big uns i) wd = true
  case neg => rw [if_neg hall] at he; exact absurd he (by decide)
  obtain ⟨r1, r2, c1, c2, w1, w2⟩ : 1 ≤ rate ∧ rate ≤ 655350 ∧ 1 ≤ ch ∧ ch ≤ 8 ∧ 4 ≤ wd ∧ wd ≤ 32 := of_decide_eq_true hu
  obtain ⟨n1, n2, n3, n4⟩ := nby_range wd w1 w2
  have h0 : 0 < ch.toNat := by omega
  obtain ⟨n, hn⟩ : ∃ n, s.size / (nby wd * ch.toNat) = n := ⟨_, rfl⟩
  have hsz : s.size = n * (ch.toNat * nby wd) := by
    have := Nat.div_add_mod s.size (nby wd * ch.toNat)
    rw [hm, hn, Nat.add_zero] at this
    rw [← this, Nat.mul_comm, Nat.mul_comm ch.toNat]
  have hK : s.size / nby wd = n * ch.toNat := by rw [hsz, ← Nat.mul_assoc, Nat.mul_div_cancel _ (by omega)]
  rw [hK] at hp hall
  have hplane : ∀ k, k < ch.toNat → (upL s wd big uns ch.toNat (n * ch.toNat)).getD k [] = (List.range n).map fun q => numI s wd big uns (q * ch.toNat + k) := fun k hk => upL_full s wd big uns ch.toNat n h0 k hk
  have hul := upL_length s wd big uns ch.toNat (n * ch.toNat)
  have hln : lenP ⟨rate, ch, wd, upL s wd big uns ch.toNat (n * ch.toNat)⟩ = n := by
    unfold lenP
    rw [hplane 0 h0, List.length_map, List.length_range]
  have hjk : ∀ j k, j < n → k < ch.toNat → j * ch.toNat + k < n * ch.toNat := fun j k hj hk => by
    have : (j + 1) * ch.toNat ≤ n * ch.toNat := Nat.mul_le_mul_right _ (by omega)
    rw [Nat.succ_mul] at this
    omega
  rw [hp]
  constructor
  · unfold checkN
    rw [hln, if_pos, if_neg (by omega)]
    rw [Bool.and_eq_true_iff]
    constructor
    · exact decide_eq_true ⟨r1, r2, c1, c2, w1, w2, by show ((upL s wd big uns ch.toNat (n * ch.toNat)).length : Int) = ch; omega⟩
    · rw [List.all_eq_true]
      intro x hx
      obtain ⟨k, hk, rfl⟩ := List.getElem_of_mem hx
      have hk2 : k < ch.toNat := by
        have : k < (upL s wd big uns ch.toNat (n * ch.toNat)).length := hk
        omega
      have e : (upL s wd big uns ch.toNat (n * ch.toNat))[k]'hk = (List.range n).map fun q => numI s wd big uns (q * ch.toNat + k) := by
        rw [← hplane k hk2, List.getD_eq_getElem?_getD, List.getElem?_eq_getElem hk]
        rfl
      unfold planeB
      show (decide (((upL s wd big uns ch.toNat (n * ch.toNat))[k]'hk).length = _) && ((upL s wd big uns ch.toNat (n * ch.toNat))[k]'hk).all _) = true
      rw [e, hln, Bool.and_eq_true_iff]
      refine ⟨decide_eq_true (by rw [List.length_map, List.length_range]), ?_⟩
      rw [List.all_eq_true]
      intro y hy
      obtain ⟨q, hq, rfl⟩ := List.mem_map.1 hy
      exact hall _ (hjk q k (List.mem_range.1 hq) hk2)
  · rw [hln]
    have e : packL ⟨rate, ch, wd, upL s wd big uns ch.toNat (n * ch.toNat)⟩ big uns n = bytesOf s := by
      have e1 : packL ⟨rate, ch, wd, upL s wd big uns ch.toNat (n * ch.toNat)⟩ big uns n = (List.range n).flatMap (fun j => ((bytesOf s).drop (j * (ch.toNat * nby wd))).take (ch.toNat * nby wd)) := by
        unfold packL
        refine flat_congr _ _ n (fun j hj => ?_)
        rw [← flat_take]
        unfold frameL
        refine flat_congr _ _ ch.toNat (fun c hc => ?_)
        show codeL big wd uns (((upL s wd big uns ch.toNat (n * ch.toNat)).getD c []).getD j 0) = _
        rw [hplane c hc, List.getD_eq_getElem?_getD, List.getElem?_map, List.getElem?_range hj, Option.map_some, Option.getD_some, code_num s wd big uns _ w1 w2, List.drop_drop]
        · congr 2
          rw [Nat.add_mul, Nat.mul_assoc]
        · have := Nat.mul_le_mul_right (nby wd) (hjk j c hj hc)
          rw [Nat.succ_mul] at this
          rw [hsz, ← Nat.mul_assoc]
          exact this
      rw [e1, flat_take, ← hsz]
      exact List.take_of_length_le (by rw [bytesOf_length]; exact Nat.le_refl _)
    rw [e, textOf_bytesOf]

end Go.Proofs.Ytolmijpecomkcaa
