/- Own text: the walk of the document's Unpack, its beginning. packed and unpacked, the plain laws. what was packed is unpacked as it was. the walk of the document's Unpack, what it keeps. -/
import Derived.Test.YtaepgjheknkojaaGreatG6x
import Derived.Test.YtaepgjheknkojaaGreatG11x
import Derived.Test.YtaepgjheknkojaaGreatRefbytes
import Derived.Test.YtaepgjheknkojaaGreatG5x
namespace Go.Proofs.YtaepgjheknkojaaGreat
open Go.RowKit
set_option linter.unusedSimpArgs false
set_option linter.unusedVariables false

/-- The i-th number of a text, w bytes each. -/
def mOf (s : ByteArray) (w : Nat) (big : Bool) (i : Nat) : Nat := val (if big then bytesOf (s.extract (i * w) (i * w + w)) else (bytesOf (s.extract (i * w) (i * w + w))).reverse)
def decN (wd : Int) (uns : Bool) (m : Nat) : Int := if uns then (m : Int) - 2 ^ (wd.toNat - 1) else if 2 ^ (8 * nby wd - 1) ≤ (m : Int) then (m : Int) - 2 ^ (8 * nby wd) else m
def numI (s : ByteArray) (wd : Int) (big uns : Bool) (i : Nat) : Int := decN wd uns (mOf s (nby wd) big i)
/-- The planes behind the first i numbers. -/
def upL (s : ByteArray) (wd : Int) (big uns : Bool) (ch : Nat) : Nat → List (List Int)
  | 0 => List.replicate ch []
  | i + 1 => (upL s wd big uns ch i).set (i % ch) ((upL s wd big uns ch i).getD (i % ch) [] ++ [numI s wd big uns i])
theorem upL_length (s : ByteArray) (wd : Int) (big uns : Bool) (ch : Nat) : ∀ i, (upL s wd big uns ch i).length = ch
  | 0 => by simp [upL]
  | i + 1 => by rw [upL, List.length_set]; exact upL_length s wd big uns ch i
theorem upL_each (s : ByteArray) (wd : Int) (big uns : Bool) (ch : Nat) (hs : ∀ i, i < 10000000 → -9223372036854775808 ≤ numI s wd big uns i ∧ numI s wd big uns i ≤ 9223372036854775807) : ∀ i, i ≤ 10000000 → ∀ k, k < ch → ((upL s wd big uns ch i).getD k []).length ≤ i ∧ ∀ n ∈ (upL s wd big uns ch i).getD k [], -9223372036854775808 ≤ n ∧ n ≤ 9223372036854775807
  | 0, _, k, hk => by
    have e : (upL s wd big uns ch 0).getD k [] = [] := by simp [upL, List.getD_eq_getElem?_getD, hk]
    rw [e]
    exact ⟨Nat.le_refl _, fun n hn => by cases hn⟩
  | i + 1, hi, k, hk => by
    have hl := upL_length s wd big uns ch i
    rw [upL]
    by_cases e : i % ch = k
    · subst e
      rw [getD_set_eq _ _ _ _ (by omega)]
      obtain ⟨h1, h2⟩ := upL_each s wd big uns ch hs i (by omega) (i % ch) hk
      refine ⟨by rw [List.length_append, List.length_singleton]; omega, fun n hn => ?_⟩
      rcases List.mem_append.1 hn with hn | hn
      · exact h2 n hn
      · rw [List.mem_singleton] at hn
        rw [hn]
        exact hs i (by omega)
    · rw [getD_set_ne _ _ _ _ _ e]
      obtain ⟨h1, h2⟩ := upL_each s wd big uns ch hs i (by omega) k hk
      exact ⟨by omega, h2⟩

def uheadB (rate ch wd : Int) : Bool := decide (1 ≤ rate ∧ rate ≤ 655350 ∧ 1 ≤ ch ∧ ch ≤ 8 ∧ 4 ≤ wd ∧ wd ≤ 32)
/-- Unpack's error. -/
def unpE (s : ByteArray) (rate ch wd : Int) (big uns : Bool) : Int :=
  if uheadB rate ch wd then (if s.size % (nby wd * ch.toNat) = 0 then (if 1048576 < s.size / (nby wd * ch.toNat) then 5 else
    (if ∀ i, i < s.size / nby wd → sampB (numI s wd big uns i) wd = true then 0 else 2)) else 2) else 50
def unpP (s : ByteArray) (rate ch wd : Int) (big uns : Bool) : Pcm := if unpE s rate ch wd big uns = 0 then ⟨rate, ch, wd, upL s wd big uns ch.toNat (s.size / nby wd)⟩ else noP

/-- A PCM and an error are handed back, the PCM in new memory. -/
def Gives (w : World) (q : Pcm) (n : Int) (e : Ending) (w' : World) : Prop := ∃ ao' cap', e = .returned (.tuple #[pcmV q ao' cap', .int .i64 n]) ∧ RowsAt w' ao' q.pl ∧ Fresh w.heap.size w' ao' q.pl ∧ Below w.heap.size w w'
/-- The boxes of Unpack. -/
structure Un (w0 : World) (big uns : Bool) (w : World) : Prop where
  lay : w.heap[w0.heap.size]? = some (.cells #[.bool big, .bool uns] 59 (0, 0))
  res : w.heap[w0.heap.size + 1]? = some (.cells zeroP 24 (0, 0))
  below : Below w0.heap.size w0 w
theorem Un.new (w : World) (big uns : Bool) : Un w big uns ((w.alloc (.cells #[.bool big, .bool uns] 59)).alloc (.cells zeroP 24)) := by
  refine ⟨?_, ?_, ((Below.refl w.heap.size w).alloc (Nat.le_refl _) _).alloc (by simp) _⟩
  · rw [Below.heap_alloc _ _ _ (by simp)]
    exact heap_alloc_new _ _
  · have h := heap_alloc_new (w.alloc (.cells #[.bool big, .bool uns] 59)) (.cells zeroP 24)
    have e : (w.alloc (.cells #[.bool big, .bool uns] 59)).heap.size = w.heap.size + 1 := by simp
    rw [e] at h
    exact h
theorem Un.new0 (w : World) (big uns : Bool) : ((w.alloc (.cells #[.bool big, .bool uns] 59)).alloc (.cells zeroP 24)).heap.size = w.heap.size + 2 := by simp

set_option maxRecDepth 20000 in
set_option maxHeartbeats 6400000 in
theorem runpack_head (s : ByteArray) (rate ch wd : Int) (big uns : Bool) (w : World) (hh : uheadB rate ch wd = false) :
    Calls Tryz.prog 21 #[.string s, .int .i64 rate, .int .i64 ch, .int .i64 wd, .agg #[.bool big, .bool uns]] w fun e w' => Gives w (unpP s rate ch wd big uns) (unpE s rate ch wd big uns) e w' := by
  have HN : Hid (unpE s rate ch wd big uns = 50) := by
    show _ = _
    unfold unpE
    rw [hh]
    rfl
  have HP : Hid (unpP s rate ch wd big uns = noP) := by
    show _ = _
    unfold unpP
    rw [HN.out]
    rfl
  have HU : Hid (Un w big uns ((w.alloc (.cells #[.bool big, .bool uns] 59)).alloc (.cells zeroP 24))) := Un.new w big uns
  have hn := of_decide_eq_false hh
  clear hh
  by_cases g0 : rate < 1
  · clear hn
    go_enter Tryz.func21, Tryz.ntmps21
    go_wp2
    generalize hwf : World.alloc _ _ = wf
    have hu : Un w big uns wf := by
      rw [← hwf]
      exact HU.out
    refine bodyPost_ret (v := .tuple #[.agg zeroP, .int .i64 50]) ?_ rfl ⟨none, 0, by rw [HP.out, HN.out]; rfl, by rw [HP.out]; exact rows_none _ _, by rw [HP.out]; exact fresh_none _ _ _, hu.below⟩
    rw [results_two rfl]
    have hld := run_loadVar_row (P := Tryz.prog) wf (w.heap.size + 1) 24 24 zeroP (0, 0) _ hu.res Tryz.underlying24 rfl infoP
    simp [asAddr, Result.andThen, hld]
  · skip
    by_cases g1 : 655350 < rate
    · clear hn
      go_enter Tryz.func21, Tryz.ntmps21
      go_wp2
      generalize hwf : World.alloc _ _ = wf
      have hu : Un w big uns wf := by
        rw [← hwf]
        exact HU.out
      refine bodyPost_ret (v := .tuple #[.agg zeroP, .int .i64 50]) ?_ rfl ⟨none, 0, by rw [HP.out, HN.out]; rfl, by rw [HP.out]; exact rows_none _ _, by rw [HP.out]; exact fresh_none _ _ _, hu.below⟩
      rw [results_two rfl]
      have hld := run_loadVar_row (P := Tryz.prog) wf (w.heap.size + 1) 24 24 zeroP (0, 0) _ hu.res Tryz.underlying24 rfl infoP
      simp [asAddr, Result.andThen, hld]
    · skip
      by_cases g2 : ch < 1
      · clear hn
        go_enter Tryz.func21, Tryz.ntmps21
        go_wp2
        generalize hwf : World.alloc _ _ = wf
        have hu : Un w big uns wf := by
          rw [← hwf]
          exact HU.out
        refine bodyPost_ret (v := .tuple #[.agg zeroP, .int .i64 50]) ?_ rfl ⟨none, 0, by rw [HP.out, HN.out]; rfl, by rw [HP.out]; exact rows_none _ _, by rw [HP.out]; exact fresh_none _ _ _, hu.below⟩
        rw [results_two rfl]
        have hld := run_loadVar_row (P := Tryz.prog) wf (w.heap.size + 1) 24 24 zeroP (0, 0) _ hu.res Tryz.underlying24 rfl infoP
        simp [asAddr, Result.andThen, hld]
      · skip
        by_cases g3 : 8 < ch
        · clear hn
          go_enter Tryz.func21, Tryz.ntmps21
          go_wp2
          generalize hwf : World.alloc _ _ = wf
          have hu : Un w big uns wf := by
            rw [← hwf]
            exact HU.out
          refine bodyPost_ret (v := .tuple #[.agg zeroP, .int .i64 50]) ?_ rfl ⟨none, 0, by rw [HP.out, HN.out]; rfl, by rw [HP.out]; exact rows_none _ _, by rw [HP.out]; exact fresh_none _ _ _, hu.below⟩
          rw [results_two rfl]
          have hld := run_loadVar_row (P := Tryz.prog) wf (w.heap.size + 1) 24 24 zeroP (0, 0) _ hu.res Tryz.underlying24 rfl infoP
          simp [asAddr, Result.andThen, hld]
        · skip
          by_cases g4 : wd < 4
          · clear hn
            go_enter Tryz.func21, Tryz.ntmps21
            go_wp2
            generalize hwf : World.alloc _ _ = wf
            have hu : Un w big uns wf := by
              rw [← hwf]
              exact HU.out
            refine bodyPost_ret (v := .tuple #[.agg zeroP, .int .i64 50]) ?_ rfl ⟨none, 0, by rw [HP.out, HN.out]; rfl, by rw [HP.out]; exact rows_none _ _, by rw [HP.out]; exact fresh_none _ _ _, hu.below⟩
            rw [results_two rfl]
            have hld := run_loadVar_row (P := Tryz.prog) wf (w.heap.size + 1) 24 24 zeroP (0, 0) _ hu.res Tryz.underlying24 rfl infoP
            simp [asAddr, Result.andThen, hld]
          · skip
            by_cases g5 : 32 < wd
            · clear hn
              go_enter Tryz.func21, Tryz.ntmps21
              go_wp2
              generalize hwf : World.alloc _ _ = wf
              have hu : Un w big uns wf := by
                rw [← hwf]
                exact HU.out
              refine bodyPost_ret (v := .tuple #[.agg zeroP, .int .i64 50]) ?_ rfl ⟨none, 0, by rw [HP.out, HN.out]; rfl, by rw [HP.out]; exact rows_none _ _, by rw [HP.out]; exact fresh_none _ _ _, hu.below⟩
              rw [results_two rfl]
              have hld := run_loadVar_row (P := Tryz.prog) wf (w.heap.size + 1) 24 24 zeroP (0, 0) _ hu.res Tryz.underlying24 rfl infoP
              simp [asAddr, Result.andThen, hld]
            · skip
              exact absurd ⟨by omega, by omega, by omega, by omega, by omega, by omega⟩ hn

end Go.Proofs.YtaepgjheknkojaaGreat

namespace Go.Proofs.YtaepgjheknkojaaGreat
open Go.RowKit
set_option linter.unusedSimpArgs false
set_option linter.unusedVariables false

theorem chunk {α : Type} (f : Nat → List α) (L : Nat) (hL : ∀ j, (f j).length = L) : ∀ n j, j < n → (((List.range n).flatMap f).drop (j * L)).take L = f j := by
  have hlen : ∀ n, ((List.range n).flatMap f).length = n * L := fun n => by
    induction n with
    | zero => simp
    | succ n ih => rw [List.range_succ, List.flatMap_append, List.length_append, ih, Nat.succ_mul]; simp [hL]
  intro n
  induction n with
  | zero => exact fun j hj => absurd hj (Nat.not_lt_zero _)
  | succ n ih =>
    intro j hj
    rw [List.range_succ, List.flatMap_append]
    by_cases e : j = n
    · subst e
      rw [List.drop_append_of_le_length (by rw [hlen]; exact Nat.le_refl _), List.drop_of_length_le (by rw [hlen]; exact Nat.le_refl _)]
      simp only [List.flatMap_cons, List.flatMap_nil, List.append_nil, List.nil_append]
      exact List.take_of_length_le (by rw [hL]; exact Nat.le_refl _)
    · have hjn : j < n := by omega
      have h1 : (j + 1) * L ≤ n * L := Nat.mul_le_mul_right _ (by omega)
      rw [Nat.succ_mul] at h1
      rw [List.drop_append_of_le_length (by rw [hlen]; omega), List.take_append_of_le_length (by rw [List.length_drop, hlen]; omega)]
      exact ih j hjn

/-- A sample's code, read. -/
theorem decN_codeN (wd : Int) (uns : Bool) (n : Int) (h4 : 4 ≤ wd) (h32 : wd ≤ 32) (hs : sampB n wd = true) : decN wd uns (codeN wd uns n).toNat = n := by
  obtain ⟨n1, n2, n3, n4⟩ := nby_range wd h4 h32
  obtain ⟨g1, g2, g3⟩ := codeN_fits wd uns n h4 h32 hs
  have hs' := of_decide_eq_true hs
  have hkw : (wd - 1).toNat = wd.toNat - 1 := by omega
  have hp : (2 : Nat) ^ (wd.toNat - 1) ≤ 2 ^ (8 * nby wd - 1) := Nat.pow_le_pow_right (by decide) (by omega)
  have hd : (2 : Nat) ^ (8 * nby wd) = 2 * 2 ^ (8 * nby wd - 1) := by
    rw [← Nat.pow_succ']
    congr 1
    omega
  rw [hkw, pow_eq] at hs'
  unfold decN
  have hc : ((codeN wd uns n).toNat : Int) = codeN wd uns n := by omega
  rw [hc]
  unfold codeN at *
  rw [hkw, pow_eq] at *
  rw [pow_eq (8 * nby wd), pow_eq (8 * nby wd - 1), hd] at *
  generalize (2 : Nat) ^ (wd.toNat - 1) = H at *
  generalize (2 : Nat) ^ (8 * nby wd - 1) = G at *
  cases uns
  · simp only [Bool.false_eq_true, if_false] at *
    split <;> split <;> omega
  · simp only [if_true] at *
    omega

theorem highL_low (m k : Nat) : (lowL m k).reverse = highL m k := by rw [← lowL_reverse, List.reverse_reverse]

/-- How many of the first i numbers stand in plane k. -/
def cntN (ch i k : Nat) : Nat := i / ch + (if k < i % ch then 1 else 0)
theorem cnt_succ (ch i k : Nat) (h0 : 0 < ch) (hk : k < ch) : cntN ch (i + 1) k = cntN ch i k + (if i % ch = k then 1 else 0) := by
  unfold cntN
  have h1 := Nat.div_add_mod i ch
  have h2 := Nat.div_add_mod (i + 1) ch
  have h3 := Nat.mod_lt i h0
  have h4 := Nat.mod_lt (i + 1) h0
  by_cases e : i % ch + 1 < ch
  · have e1 : (i + 1) / ch = i / ch := by
      rw [← h1]
      have : ch * (i / ch) + i % ch + 1 = ch * (i / ch) + (i % ch + 1) := by omega
      rw [this, Nat.mul_add_div h0, Nat.mul_add_div h0, Nat.div_eq_of_lt e, Nat.div_eq_of_lt h3]
    have e2 : (i + 1) % ch = i % ch + 1 := by rw [e1] at h2; omega
    rw [e1, e2]
    split <;> split <;> split <;> omega
  · have e0 : i % ch + 1 = ch := by omega
    have e1 : (i + 1) / ch = i / ch + 1 := by
      have : i + 1 = ch * (i / ch + 1) := by rw [Nat.mul_add, Nat.mul_one]; omega
      rw [this, Nat.mul_div_cancel_left _ h0]
    have e2 : (i + 1) % ch = 0 := by
      have : i + 1 = ch * (i / ch + 1) := by rw [Nat.mul_add, Nat.mul_one]; omega
      rw [this, Nat.mul_mod_right]
    rw [e1, e2]
    split <;> split <;> split <;> omega
/-- The planes, number by number. -/
theorem upL_at (s : ByteArray) (wd : Int) (big uns : Bool) (ch : Nat) (h0 : 0 < ch) : ∀ i k, k < ch → (upL s wd big uns ch i).getD k [] = (List.range (cntN ch i k)).map fun q => numI s wd big uns (q * ch + k)
  | 0, k, hk => by
    have e : cntN ch 0 k = 0 := by simp [cntN]
    rw [e]
    simp [upL, List.getD_eq_getElem?_getD, hk]
  | i + 1, k, hk => by
    have hl := upL_length s wd big uns ch i
    have ih := upL_at s wd big uns ch h0 i
    rw [upL, cnt_succ ch i k h0 hk]
    by_cases e : i % ch = k
    · have hc : cntN ch i k = i / ch := by
        unfold cntN
        rw [e, if_neg (Nat.lt_irrefl _), Nat.add_zero]
      have hik : i / ch * ch + k = i := by
        rw [← e]
        exact Nat.div_add_mod' i ch
      rw [if_pos e, e, getD_set_eq _ _ _ _ (by omega), ih k hk, hc, List.range_succ, List.map_append, List.map_singleton, hik]
    · rw [if_neg e, Nat.add_zero, getD_set_ne _ _ _ _ _ e]
      exact ih k hk
theorem upL_full (s : ByteArray) (wd : Int) (big uns : Bool) (ch n : Nat) (h0 : 0 < ch) (k : Nat) (hk : k < ch) : (upL s wd big uns ch (n * ch)).getD k [] = (List.range n).map fun q => numI s wd big uns (q * ch + k) := by
  rw [upL_at s wd big uns ch h0 _ k hk]
  have : cntN ch (n * ch) k = n := by
    unfold cntN
    rw [Nat.mul_div_cancel _ h0, Nat.mul_mod_left, if_neg (Nat.not_lt_zero _), Nat.add_zero]
  rw [this]

end Go.Proofs.YtaepgjheknkojaaGreat

namespace Go.Proofs.YtaepgjheknkojaaGreat
open Go.RowKit
set_option linter.unusedSimpArgs false
set_option linter.unusedVariables false

theorem takedrop {α : Type} (l : List α) (a n : Nat) : (l.take (a + n)).drop a = (l.drop a).take n := by
  rw [List.drop_take]
  congr 1
  omega
/-- The numbers of a packed PCM. -/
theorem num_packed (p : Pcm) (big uns : Bool) (hc : checkN p = 0) (i : Nat) (hi : i < lenP p * p.ch.toNat) :
    numI (textOf (packL p big uns (lenP p))) p.wd big uns i = (p.pl.getD (i % p.ch.toNat) []).getD (i / p.ch.toNat) 0 := by
  obtain ⟨hh, hlp, hpl⟩ := check_zero p hc
  obtain ⟨r1, r2, c1, c2, w1, w2, hlen⟩ := head_parts p hh
  obtain ⟨n1, n2, n3, n4⟩ := nby_range p.wd w1 w2
  have h0 : 0 < p.ch.toNat := by omega
  have hk : i % p.ch.toNat < p.ch.toNat := Nat.mod_lt _ h0
  have hq : i / p.ch.toNat < lenP p := (Nat.div_lt_iff_lt_mul h0).2 hi
  have hs : sampB ((p.pl.getD (i % p.ch.toNat) []).getD (i / p.ch.toNat) 0) p.wd = true := by
    have h1 := hpl (i % p.ch.toNat) (by omega)
    unfold planeB at h1
    obtain ⟨h2, h3⟩ := Bool.and_eq_true_iff.1 h1
    have h4 := of_decide_eq_true h2
    rw [List.all_eq_true] at h3
    apply h3
    rw [List.getD_eq_getElem?_getD (l := p.pl.getD (i % p.ch.toNat) []), List.getElem?_eq_getElem (by omega)]
    exact List.getElem_mem _
  have hb : bytesOf ((textOf (packL p big uns (lenP p))).extract (i * nby p.wd) (i * nby p.wd + nby p.wd)) = codeL big p.wd uns ((p.pl.getD (i % p.ch.toNat) []).getD (i / p.ch.toNat) 0) := by
    rw [bytesOf_extract, bytesOf_textOf _ (packL_lt p big uns _), takedrop]
    have e1 := chunk (fun j => frameL p big uns j p.ch.toNat) (p.ch.toNat * nby p.wd) (fun j => frameL_length p big uns j _) (lenP p) (i / p.ch.toNat) hq
    have e2 := chunk (fun c => codeL big p.wd uns ((p.pl.getD c []).getD (i / p.ch.toNat) 0)) (nby p.wd) (fun j => codeL_length big p.wd uns _) p.ch.toNat (i % p.ch.toNat) hk
    have e3 : i * nby p.wd = i / p.ch.toNat * (p.ch.toNat * nby p.wd) + i % p.ch.toNat * nby p.wd := by
      rw [← Nat.mul_assoc, ← Nat.add_mul]
      congr 1
      exact (Nat.div_add_mod' i _).symm
    have e4 : nby p.wd ≤ p.ch.toNat * nby p.wd - i % p.ch.toNat * nby p.wd := by
      have : (i % p.ch.toNat + 1) * nby p.wd ≤ p.ch.toNat * nby p.wd := Nat.mul_le_mul_right _ (by omega)
      rw [Nat.succ_mul] at this
      omega
    rw [e3, ← List.drop_drop]
    have e5 : ((packL p big uns (lenP p)).drop (i / p.ch.toNat * (p.ch.toNat * nby p.wd))).take (p.ch.toNat * nby p.wd) = frameL p big uns (i / p.ch.toNat) p.ch.toNat := e1
    have e6 : (((((packL p big uns (lenP p)).drop (i / p.ch.toNat * (p.ch.toNat * nby p.wd))).take (p.ch.toNat * nby p.wd)).drop (i % p.ch.toNat * nby p.wd)).take (nby p.wd)) = codeL big p.wd uns ((p.pl.getD (i % p.ch.toNat) []).getD (i / p.ch.toNat) 0) := by
      rw [e5]
      exact e2
    rw [List.drop_take, List.take_take, Nat.min_eq_left e4] at e6
    exact e6
  obtain ⟨g1, g2, g3⟩ := codeN_fits p.wd uns ((p.pl.getD (i % p.ch.toNat) []).getD (i / p.ch.toNat) 0) w1 w2 hs
  have hm : mOf (textOf (packL p big uns (lenP p))) (nby p.wd) big i = (codeN p.wd uns ((p.pl.getD (i % p.ch.toNat) []).getD (i / p.ch.toNat) 0)).toNat := by
    have hf : (codeN p.wd uns ((p.pl.getD (i % p.ch.toNat) []).getD (i / p.ch.toNat) 0)).toNat < 256 ^ nby p.wd := by
      have e : (256 : Int) ^ nby p.wd = ((256 ^ nby p.wd : Nat) : Int) := by simp
      rw [e] at g2
      omega
    unfold mOf
    rw [hb]
    unfold codeL
    cases big
    · simp only [Bool.false_eq_true, if_false]
      rw [highL_low, val_highL, Nat.mod_eq_of_lt hf]
    · simp only [if_true]
      rw [val_highL, Nat.mod_eq_of_lt hf]
  unfold numI
  rw [hm]
  exact decN_codeN p.wd uns _ w1 w2 hs

theorem packed_size (p : Pcm) (big uns : Bool) : (textOf (packL p big uns (lenP p))).size = lenP p * (p.ch.toNat * nby p.wd) := by rw [textOf_size, packL_length]

theorem list_ext {α : Type} (l m : List α) (d : α) (hl : l.length = m.length) (h : ∀ k, k < l.length → l.getD k d = m.getD k d) : l = m := by
  apply List.ext_getElem hl
  intro k h1 h2
  have := h k h1
  rwa [List.getD_eq_getElem?_getD, List.getD_eq_getElem?_getD, List.getElem?_eq_getElem h1, List.getElem?_eq_getElem h2] at this

/-- What was packed is unpacked as it was. -/
theorem unpack_pack (p : Pcm) (big uns : Bool) (hc : checkN p = 0) :
    unpE (textOf (packL p big uns (lenP p))) p.rate p.ch p.wd big uns = 0 ∧ unpP (textOf (packL p big uns (lenP p))) p.rate p.ch p.wd big uns = p := by
  obtain ⟨hh, hlp, hpl⟩ := check_zero p hc
  obtain ⟨r1, r2, c1, c2, w1, w2, hlen⟩ := head_parts p hh
  obtain ⟨n1, n2, n3, n4⟩ := nby_range p.wd w1 w2
  have h0 : 0 < p.ch.toNat := by omega
  have hsz := packed_size p big uns
  have hp0 : 0 < nby p.wd * p.ch.toNat := Nat.mul_pos (by omega) h0
  have hsz2 : (textOf (packL p big uns (lenP p))).size = lenP p * (nby p.wd * p.ch.toNat) := by rw [hsz, Nat.mul_comm p.ch.toNat]
  have hq : (textOf (packL p big uns (lenP p))).size / (nby p.wd * p.ch.toNat) = lenP p := by rw [hsz2, Nat.mul_div_cancel _ hp0]
  have hK : (textOf (packL p big uns (lenP p))).size / nby p.wd = lenP p * p.ch.toNat := by rw [hsz, ← Nat.mul_assoc, Nat.mul_div_cancel _ (by omega)]
  have hplane : ∀ k, k < p.pl.length → (p.pl.getD k []).length = lenP p ∧ ∀ i, i < lenP p → sampB ((p.pl.getD k []).getD i 0) p.wd = true := fun k hk => by
    have := hpl k hk
    unfold planeB at this
    obtain ⟨h1, h2⟩ := Bool.and_eq_true_iff.1 this
    have h3 := of_decide_eq_true h1
    refine ⟨h3, fun i hi => ?_⟩
    rw [List.all_eq_true] at h2
    apply h2
    rw [List.getD_eq_getElem?_getD (l := p.pl.getD k []), List.getElem?_eq_getElem (by omega)]
    exact List.getElem_mem _
  have hE : unpE (textOf (packL p big uns (lenP p))) p.rate p.ch p.wd big uns = 0 := by
    unfold unpE
    have hu : uheadB p.rate p.ch p.wd = true := decide_eq_true ⟨r1, r2, c1, c2, w1, w2⟩
    rw [hu, if_pos rfl, if_pos (by rw [hsz2, Nat.mul_mod_left]), hq, if_neg (by omega), hK, if_pos]
    intro i hi
    rw [num_packed p big uns hc i hi]
    exact (hplane (i % p.ch.toNat) (by have := Nat.mod_lt i h0; omega)).2 _ ((Nat.div_lt_iff_lt_mul h0).2 hi)
  refine ⟨hE, ?_⟩
  unfold unpP
  rw [if_pos hE, hK]
  have hl : upL (textOf (packL p big uns (lenP p))) p.wd big uns p.ch.toNat (lenP p * p.ch.toNat) = p.pl := by
    have hul := upL_length (textOf (packL p big uns (lenP p))) p.wd big uns p.ch.toNat (lenP p * p.ch.toNat)
    refine list_ext _ _ [] (by omega) (fun k hk => ?_)
    have hk2 : k < p.ch.toNat := by omega
    obtain ⟨g1, _⟩ := hplane k (by omega)
    rw [upL_full _ _ _ _ _ _ h0 k hk2]
    refine list_ext _ _ 0 (by rw [List.length_map, List.length_range, g1]) (fun j hj => ?_)
    rw [List.length_map, List.length_range] at hj
    rw [List.getD_eq_getElem?_getD, List.getElem?_map, List.getElem?_range hj, Option.map_some, Option.getD_some]
    have hjk : j * p.ch.toNat + k < lenP p * p.ch.toNat := by
      have : (j + 1) * p.ch.toNat ≤ lenP p * p.ch.toNat := Nat.mul_le_mul_right _ (by omega)
      rw [Nat.succ_mul] at this
      omega
    have e1 : (j * p.ch.toNat + k) % p.ch.toNat = k := by rw [Nat.mul_add_mod_self_right, Nat.mod_eq_of_lt hk2]
    have e2 : (j * p.ch.toNat + k) / p.ch.toNat = j := by rw [Nat.mul_comm, Nat.mul_add_div h0, Nat.div_eq_of_lt hk2, Nat.add_zero]
    rw [num_packed p big uns hc _ hjk, e1, e2]
  rw [hl]

end Go.Proofs.YtaepgjheknkojaaGreat

namespace Go.Proofs.YtaepgjheknkojaaGreat
open Go.RowKit
set_option linter.unusedSimpArgs false
set_option linter.unusedVariables false

/-- On the way through Unpack's loop. -/
structure Up (w0 : World) (big uns : Bool) (rate ch wd : Int) (C : Nat) (vs : List Value) (xs : List (List Int)) (w : World) : Prop where
  lay : w.heap[w0.heap.size]? = some (.cells #[.bool big, .bool uns] 59 (0, 0))
  res : w.heap[w0.heap.size + 1]? = some (.cells zeroP 24 (0, 0))
  q : w.heap[w0.heap.size + 3]? = some (.cells #[.int .i64 rate, .int .i64 ch, .int .i64 wd, .slice (some ⟨w0.heap.size + 2, 0, none⟩) C C] 24 (0, 0))
  mat : OwnMat 95 (w0.heap.size + 2) w (.slice (some ⟨w0.heap.size + 2, 0, none⟩) C C) vs xs
  len : xs.length = C
  far : ∀ k, k < xs.length → (vs.getD k noS).ownBlock ≠ some (w0.heap.size + 3)
  size : w0.heap.size + 4 ≤ w.heap.size
  below : Below w0.heap.size w0 w
section
variable {w0 w w' : World} {big uns : Bool} {rate ch wd : Int} {C : Nat} {vs : List Value} {xs : List (List Int)}
theorem Up.next (h : Up w0 big uns rate ch wd C vs xs w) (hB : Below w.heap.size w w') : Up w0 big uns rate ch wd C vs xs w' :=
  ⟨by rw [hB.block _ (lt_of_block h.lay)]; exact h.lay, by rw [hB.block _ (lt_of_block h.res)]; exact h.res, by rw [hB.block _ (lt_of_block h.q)]; exact h.q, h.mat.next hB, h.len, h.far, Nat.le_trans h.size hB.size, h.below.trans (hB.mono h.below.size)⟩
theorem Up.drew (h : Up w0 big uns rate ch wd C vs xs w) : Up w0 big uns rate ch wd C vs xs w.drew := h.next ⟨rfl, rfl, rfl, Nat.le_refl _, fun _ _ => rfl⟩
theorem Up.un (h : Up w0 big uns rate ch wd C vs xs w) : Un w0 big uns w := ⟨h.lay, h.res, h.below⟩
theorem Up.l0 (h : Up w0 big uns rate ch wd C vs xs w) : w.cell? ⟨w0.heap.size, 0, none⟩ = some (.bool big) := by rw [cell_of_row _ _ _ _ _ _ h.lay]; rfl
theorem Up.l1 (h : Up w0 big uns rate ch wd C vs xs w) : w.cell? ⟨w0.heap.size, 1, none⟩ = some (.bool uns) := by rw [cell_of_row _ _ _ _ _ _ h.lay]; rfl
theorem Up.q3 (h : Up w0 big uns rate ch wd C vs xs w) : w.cell? ⟨w0.heap.size + 3, 3, none⟩ = some (.slice (some ⟨w0.heap.size + 2, 0, none⟩) C C) := by rw [cell_of_row _ _ _ _ _ _ h.q]; rfl
theorem Up.row (h : Up w0 big uns rate ch wd C vs xs w) (k : Nat) (hk : k < C) : w.cell? ⟨w0.heap.size + 2, k, none⟩ = some (vs.getD k noS) ∧ w.frozen? ⟨w0.heap.size + 2, k, none⟩ = false := by
  have hl := h.len
  have ho := h.mat.outer
  rw [hl] at ho
  have hv := h.mat.vlen
  constructor
  · rw [ho.cellAt k (by omega), List.getD_eq_getElem?_getD, List.getElem?_eq_getElem (by omega)]
    rfl
  · exact ho.frozenAt k
/-- One number more. -/
theorem Up.push {w1 : World} {u' : Value} {x : Int} (h : Up w0 big uns rate ch wd C vs xs w) (k : Nat) (hk : k < C) (hg : w.grownBy w1 (vs.getD k noS).ownBlock)
    (hu : w1.ownsRow (w0.heap.size + 2) 3 1 u' ((xs.getD k []).length + 1) (intsC (xs.getD k []) ++ [.int .i64 x])) (hb : u'.ownBlock = (vs.getD k noS).ownBlock ∨ u'.ownBlock = some w.heap.size) :
    Up w0 big uns rate ch wd C (vs.set k u') (xs.set k (xs.getD k [] ++ [x])) (w1.setCell ⟨w0.heap.size + 2, k, none⟩ u') := by
  have hl := h.len
  have hsz := h.size
  have hne : ∀ j, j < w0.heap.size + 4 → some j ≠ (vs.getD k noS).ownBlock ∨ j = w0.heap.size + 2 := fun j hj => by
    by_cases e : j = w0.heap.size + 2
    · exact .inr e
    · refine .inl (fun q => ?_)
      by_cases e3 : j = w0.heap.size + 3
      · exact h.far k (by omega) (by rw [← q, e3])
      · have := ((h.mat.inner k (by omega)).lt j q.symm).1
        omega
  have hkeep : ∀ j, j < w0.heap.size + 4 → j ≠ w0.heap.size + 2 → w1.heap[j]? = w.heap[j]? := fun j hj hj2 => hg.block j (by omega) (by
    rcases hne j hj with q | q
    · exact q
    · exact absurd q hj2)
  have hu2 : w1.ownsRow (w0.heap.size + 2) 3 1 u' (xs.getD k [] ++ [x]).length (intsC (xs.getD k [] ++ [x])) := by
    rw [List.length_append, intsC_append]
    exact hu
  have hm := h.mat.set k (by omega) hg hu2 hb (w0.heap.size + 2) C (by rw [hl])
  refine ⟨?_, ?_, ?_, hm, by rw [List.length_set]; exact hl, fun j hj => ?_, by simpa [World.setCell] using Nat.le_trans hsz hg.size, ?_⟩
  · rw [Below.heap_setCell _ _ _ _ (by simp), hkeep _ (by omega) (by omega)]
    exact h.lay
  · rw [Below.heap_setCell _ _ _ _ (by simp), hkeep _ (by omega) (by omega)]
    exact h.res
  · rw [Below.heap_setCell _ _ _ _ (by simp), hkeep _ (by omega) (by omega)]
    exact h.q
  · rw [List.length_set] at hj
    have hv := h.mat.vlen
    by_cases e : k = j
    · subst e
      rw [getD_set_eq _ _ _ _ (by omega)]
      rcases hb with q | q
      · rw [q]
        exact h.far k hj
      · rw [q]
        intro q2
        have := Option.some.inj q2
        omega
    · rw [getD_set_ne _ _ _ _ _ e]
      exact h.far j hj
  · refine Below.setCell ?_ (by simp) _
    exact grown_to hg h.below (by omega) (fun j q => by have := ((h.mat.inner k (by omega)).lt j q).1; omega)
end

theorem bytesOf_ext (s : ByteArray) (a b : Nat) (h1 : a ≤ b) (h2 : b ≤ s.size) : (s.extract a b).size = b - a := by
  rw [ByteArray.size_extract]
  omega
theorem mOf_lt (s : ByteArray) (nb : Nat) (big : Bool) (i : Nat) (h : i * nb + nb ≤ s.size) : mOf s nb big i < 256 ^ nb := by
  have hl : (bytesOf (s.extract (i * nb) (i * nb + nb))).length = nb := by
    rw [bytesOf_length, bytesOf_ext _ _ _ (by omega) h]
    omega
  unfold mOf
  split
  · have := val_lt _ (bytesOf_lt (s.extract (i * nb) (i * nb + nb)))
    rwa [hl] at this
  · have := val_lt (bytesOf (s.extract (i * nb) (i * nb + nb))).reverse (fun b hb => bytesOf_lt _ b (List.mem_reverse.1 hb))
    rwa [List.length_reverse, hl] at this

end Go.Proofs.YtaepgjheknkojaaGreat
