/- Own text. -/
import Derived.Test.YthgpleelpeacjaaGreatDoorH9
set_option linter.unusedSimpArgs false
set_option linter.unusedVariables false
set_option maxRecDepth 20000
set_option maxHeartbeats 12800000
namespace Go.Proofs.YthgpleelpeacjaaGreatDoor
open Go.RowKit
section
variable {P : Program} {ops : Array Oper} {Q : Exit → Act → World → Prop} {md : Region.Mode} {S : World → Prop} {n : Nat}
def Till (P : Program) (md : Region.Mode) (ops : Array Oper) (Q : Exit → Act → World → Prop) (S : World → Prop) (n : Nat) : Nat → Array Bool → Act → World → Prop
 | 0, listed, a, w => Region.ready md ops listed = [] ∧ Q .normal a w
 | fuel + 1, listed, a, w => (Region.ready md ops listed = [] → Q .normal a w) ∧ ∀ i, i ∈ Region.ready md ops listed → wpOp P ops Q i (fun a' w' => ((listed.setIfInBounds i true).getD n true = false → S w') ∧ Till P md ops Q S n fuel (listed.setIfInBounds i true) a' w') a w
theorem Till.any (fuel : Nat) (listed : Array Bool) (a : Act) (w : World) (h : Till P md ops Q S n fuel listed a w) : wpAny P md ops Q fuel listed a w := by
 induction fuel generalizing listed a w with
 | zero => exact h
 | succ f ih => exact ⟨h.1, fun i hi => wpOp_mono (fun a' w' hh => ih _ a' w' hh.2) (h.2 i hi)⟩
def Waits (md : Region.Mode) (ops : Array Oper) (n i : Nat) : Prop := ∀ on, ops[n]? = some on → ∃ e, e ∈ on.after ∧ Region.binds md e = true ∧ e.on = i
theorem Waits.of {i : Nat} (h : ((ops[n]?).all fun on => on.after.any fun e => Region.binds md e && (e.on == i)) = true) : Waits md ops n i := fun on ho => by
 rw [ho] at h
 simp only [Option.all_some, Array.any_eq_true, Bool.and_eq_true_iff, beq_iff_eq] at h
 obtain ⟨j, hj, h1, h2⟩ := h
 exact ⟨_, Array.getElem_mem hj, h1, h2⟩
theorem Till.first {i : Nat} {oi : Oper} {v : Value} (hi : ops[i]? = some oi) (hsel : ∀ (j : Nat) (o : Oper) cs b, ops[j]? = some o → o.op ≠ .select cs b)
  (hQ : ∀ c a w, Q (.panic c) (a.put oi.dst v) w → Q (.panic c) a w) (hni : n ≠ i) (hwt : Waits md ops n i) (fuel : Nat) :
  ∀ (listed : Array Bool) (a : Act) (w : World), (∀ j oj, ops[j]? = some oj → j ≠ i → listed.getD j true = false → (∀ e ∈ oj.after, Region.binds md e = true → e.on ≠ i) → oi.apart ops oj = true) →
   listed.getD n true = false → i ∈ Region.ready md ops listed → YieldsIf P ops S oi v a → S w → Till P md ops Q S n fuel (listed.setIfInBounds i true) (a.put oi.dst v) w → Till P md ops Q S n (fuel + 1) listed a w := by
 induction fuel with
 | zero =>
  intro listed a w _ hn hr hy hS H
  refine ⟨fun h => (by rw [h] at hr; cases hr), fun j hj => ?_⟩
  by_cases hji : j = i
  ·subst hji; exact hy.wpOp hi hS ⟨fun _ => hS, H⟩
  ·have := ready_mono hj hji
   rw [H.1] at this
   cases this
 | succ f ih =>
  intro listed a w hfree hn hr hy hS H
  refine ⟨fun h => (by rw [h] at hr; cases hr), fun j hj => ?_⟩
  by_cases hji : j = i
  ·subst hji; exact hy.wpOp hi hS ⟨fun _ => hS, H⟩
  obtain ⟨hun, oj, hoj, hall⟩ := mem_ready.1 hj
  have hnot : ∀ e ∈ oj.after, Region.binds md e = true → e.on ≠ i := fun e he hb heq => by
   have h1 := hall e he hb
   have h0 := (mem_ready.1 hr).1
   rw [heq] at h1
   rcases Nat.lt_or_ge i listed.size with h' | h'
   ·simp [h'] at h0 h1; rw [h0] at h1; cases h1
   ·simp [Array.getElem?_eq_none h'] at h1
  have hjn : j ≠ n := fun e => by
   subst e
   obtain ⟨e, he, hb, heq⟩ := hwt oj hoj
   exact hnot e he hb heq
  have hn2 : (listed.setIfInBounds j true).getD n true = false := by rw [getD_set_ne true hjn]; exact hn
  have hn3 : ((listed.setIfInBounds i true).setIfInBounds j true).getD n true = false := by rw [getD_set_ne true hjn, getD_set_ne true (Ne.symm hni)]; exact hn
  have h2 := wpOp_putIf hoj (hfree j oj hoj hji hun hnot) (fun cs b => hsel i oi cs b hi) (fun cs b => hsel j oj cs b hoj) hQ hy (H.2 j (ready_mono hj hji))
  refine wpOp_mono (fun a' w' h3 => ?_) h2
  have hS' := h3.2.1 hn3
  refine ⟨fun _ => hS', ih (listed.setIfInBounds j true) a' w' (fun k ok hk hki hku hno => hfree k ok hk hki ?_ hno) hn2 (ready_mono hr (Ne.symm hji)) h3.1 hS' ?_⟩
  ·by_cases hjk : j = k
   ·subst hjk; exact hun
   ·rwa [getD_set_ne true hjk] at hku
  ·rw [Array.setIfInBounds_comm _ _ hji]
   exact h3.2.2
theorem Till.take {i : Nat} {oi : Oper} {v : Value} {fuel : Nat} {listed : Array Bool} {a : Act} {w : World} (hi : ops[i]? = some oi) (hs : Region.noSelect ops = true) (hf : Region.free md ops listed i = true) (hr : (Region.ready md ops listed).contains i = true)
  (hQ : ∀ c a w, Q (.panic c) (a.put oi.dst v) w → Q (.panic c) a w) (hni : n ≠ i) (hwt : Waits md ops n i) (hn : listed.getD n true = false) (hy : YieldsIf P ops S oi v a) (hS : S w)
  (h : Till P md ops Q S n fuel (listed.setIfInBounds i true) (a.put oi.dst v) w) : Till P md ops Q S n (fuel + 1) listed a w :=
 Till.first hi (Region.noSelect_spec hs) hQ hni hwt fuel listed a w (Region.free_spec hi hf) hn (by simpa using hr) hy hS h
def Ups (P : Program) (md : Region.Mode) (ops : Array Oper) (Q : Exit → Act → World → Prop) (S : World → Prop) (n fuel : Nat) (listed : Array Bool) (a : Act) (w : World) (rs : List Nat) : Prop :=
 ∀ i, i ∈ rs → wpOp P ops Q i (fun a' w' => ((listed.setIfInBounds i true).getD n true = false → S w') ∧ Till P md ops Q S n fuel (listed.setIfInBounds i true) a' w') a w
theorem Ups.nil {fuel : Nat} {listed : Array Bool} {a : Act} {w : World} : Ups P md ops Q S n fuel listed a w [] := fun _ h => by cases h
theorem Ups.cons {fuel : Nat} {listed : Array Bool} {a : Act} {w : World} {i : Nat} {o : Oper} {rs : List Nat} (ho : ops[i]? = some o)
  (h : ∀ K' : Act → World → Prop, Shut (∀ a w, ((listed.setIfInBounds i true).getD n true = false → S w) → Till P md ops Q S n fuel (listed.setIfInBounds i true) a w → K' a w) → if Region.wanted o (yielded ops a.tmps) = true then Oper.wp P o a w K' Q else K' (a.put o.dst undef) w)
  (hs : Ups P md ops Q S n fuel listed a w rs) : Ups P md ops Q S n fuel listed a w (i :: rs) := fun j hj => by
 rcases List.mem_cons.1 hj with rfl | hj
 ·exact wpOp_step ho (fun K' hK => h K' (fun a w hS hW => hK a w ⟨hS, hW⟩))
 ·exact hs j hj
theorem Till.ready {rs : List Nat} {fuel : Nat} {listed : Array Bool} {a : Act} {w : World} (hr : Region.ready md ops listed = rs) (hne : rs ≠ []) (h : Ups P md ops Q S n fuel listed a w rs) : Till P md ops Q S n (fuel + 1) listed a w :=
 ⟨fun h0 => absurd (hr ▸ h0) hne, hr ▸ h⟩
theorem Till.done {fuel : Nat} {listed : Array Bool} {a : Act} {w : World} (hr : Region.ready md ops listed = []) (h : Q .normal a w) : Till P md ops Q S n fuel listed a w := by
 cases fuel with
 | zero => exact ⟨hr, h⟩
 | succ f => exact ⟨fun _ => h, fun i hi => by rw [hr] at hi; cases hi⟩
theorem Till.begin {id : Nat} {a : Act} {w : World} (hm : P.follows .mixedOrders = true) (hS : S w.drew) (h : S w.drew → Till P .any ops Q S n ops.size (Array.replicate ops.size false) a w.drew) : (Code.region id ops true).wp P Q a w :=
 wp_region_any hm (Till.any _ _ _ _ (h hS))
end
theorem xcost_spec (l : List Int) (k : Int) (ao : Option Addr) (cap : Nat) (hs : ShX l) (w : World) (hl : IntsAt w ao l) :
  Calls Tryz.prog 83 #[.slice ao l.length cap, .int .i64 k] w fun e w' => e = .returned (.int .i64 (costI l k)) ∧ ∃ n, w' = w.drewN n := by
 by_cases h0 : k < 0
 ·have HC : Hid (costI l k = -1) := by show _ = _; unfold costI; rw [if_pos (Or.inl h0)]
  clear hs hl
  go_enter Tryz.func83, Tryz.ntmps83
  go_wp2_with fail
  go_ret
  exact ⟨by rw [HC.out]; rfl, 0, rfl⟩
 by_cases h1 : 30 < k
 ·have HC : Hid (costI l k = -1) := by show _ = _; unfold costI; rw [if_pos (Or.inr h1)]
  clear hs hl
  go_enter Tryz.func83, Tryz.ntmps83
  go_wp2_with fail
  go_ret
  exact ⟨by rw [HC.out]; rfl, 0, rfl⟩
 obtain ⟨k, rfl⟩ : ∃ k' : Nat, k = k' := ⟨k.toNat, by omega⟩
 have HC : Hid (codB l k = true → costI l (k : Int) = (costN l k : Int)) := fun hc => by unfold costI; rw [if_neg (by omega), Int.toNat_natCast, if_pos hc]
 have HCN : Hid (codB l k = false → costI l (k : Int) = -1) := fun hc => by unfold costI; rw [if_neg (by omega), Int.toNat_natCast, if_neg (by rw [hc]; decide)]
 have HL : Hid (IntsAt w ao l) := hl
 have h2 := hl.len
 have h5 := hs.2
 clear hl hs
 go_enter Tryz.func83, Tryz.ntmps83
 go_wp2_with fail
 go_loopw [5, 6, 7] (fun s5 s6 s7 wr => ∃ j n : Nat, j ≤ l.length ∧ s6 = .int .i64 (j : Int) ∧ s5 = .int .i64 ((costN (l.take j) k : Nat) : Int) ∧ (∀ x ∈ l.take j, foldN x / 2 ^ k ≤ 16777216) ∧ wr = w.drewN n) (fun _ s6 _ _ => l.length - (intOf s6).toNat)
 case atStart => exact ⟨0, 0, Nat.zero_le _, rfl, rfl, fun x hx => absurd hx (by simp), rfl⟩
 case round =>
  obtain ⟨j, n, hj, rfl, rfl, hal, rfl⟩ := hrel
  have HAL : Hid (∀ x ∈ l.take j, foldN x / 2 ^ k ≤ 16777216) := hal
  have hc0 := costN_le (l.take j) k (by omega) hal
  have hc : costN (l.take j) k ≤ 1099600000000 := by rw [List.length_take] at hc0; omega
  clear hal hc0
  by_cases hlt : j < l.length
  ·obtain ⟨b1, o1, rfl, q1⟩ := HL.out.at j hlt
   have r1 := q1 (w.drewN n) (below_drewN _ _)
   have hx := HL.out.rng j
   have HN : Hid (costN (l.take (j + 1)) k = costN (l.take j) k + oneC k (l.getD j 0)) := by show _ = _; rw [take_snoc l j hlt, costN_snoc]
   have HT : Hid (l.take (j + 1) = l.take j ++ [l.getD j 0]) := take_snoc l j hlt
   have HM : Hid (l.getD j 0 ∈ l) := getD_mem l j hlt
   clear q1
   generalize l.getD j 0 = x at *
   have kf := fold_spec x (by omega) (by omega) (w.drewN n)
   have kfl := foldN_lt x (by omega) (by omega)
   have hdc := div_cast (foldN x) k
   have hqf : foldN x / 2 ^ k ≤ foldN x := Nat.div_le_self _ _
   have HQ : Hid (oneC k x = foldN x / 2 ^ k + 1 + k) := rfl
   by_cases hbig : foldN x / 2 ^ k ≤ 16777216
   ·have HAL2 : Hid (∀ y ∈ l.take (j + 1), foldN y / 2 ^ k ≤ 16777216) := fun y hy => by
     rw [HT.out] at hy
     rcases List.mem_append.1 hy with hy | hy
     ·exact HAL.out y hy
     ·rw [List.mem_singleton] at hy; rw [hy]; exact hbig
    generalize hq : foldN x / 2 ^ k = q at *
    clear hq
    generalize costN (l.take j) k = s at *
    generalize hfx : foldN x = fx at *
    clear hfx
    go_wp2_with fail
    refine kf.mono ?_
    rintro e w4 ⟨rfl, rfl⟩
    go_wp2_with fail
    go_roundw
    case rel => exact ⟨j + 1, n, by omega, by go_num, by rw [HN.out, HQ.out]; go_num, HAL2.out, rfl⟩
    case measure => simp [intOf]; omega
   ·have HNO : Hid (costI l (k : Int) = -1) := HCN.out (by
     cases h : codB l k with
     | false => rfl
     | true => exact absurd ((codB_iff l k).1 h x HM.out) hbig)
    generalize hq : foldN x / 2 ^ k = q at *
    clear hq
    generalize costN (l.take j) k = s at *
    generalize hfx : foldN x = fx at *
    clear hfx
    have hb2 : 16777216 < (q : Int) := by omega
    go_wp2_with fail
    refine kf.mono ?_
    rintro e w4 ⟨rfl, rfl⟩
    go_wp2_with fail
    go_ret
    exact ⟨by rw [HNO.out]; rfl, n, rfl⟩
  ·have HE : Hid (l.take j = l) := List.take_of_length_le (by omega)
   have HY : Hid (costI l (k : Int) = (costN l k : Int)) := HC.out ((codB_iff l k).2 (by have := HAL.out; rwa [HE.out] at this))
   go_wp2_with fail
   go_ret
   exact ⟨by rw [HY.out, HE.out]; rfl, n, rfl⟩
end Go.Proofs.YthgpleelpeacjaaGreatDoor
