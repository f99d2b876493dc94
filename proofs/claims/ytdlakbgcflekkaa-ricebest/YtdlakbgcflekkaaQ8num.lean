/- Own text: the walks of the program's number and readOne. -/
import Derived.Test.YtdlakbgcflekkaaQ8enc
import Derived.Test.YtdlakbgcflekkaaP8dec
namespace Go.Proofs.Ytdlakbgcflekkaa
open Go.RowKit
set_option linter.unusedSimpArgs false
set_option linter.unusedVariables false

def IntsBlk (w : World) (g : Nat) (L : List Int) : Prop := w.heap[g]? = some (.cells (intsC L).toArray 3 (0, 0))
theorem IntsBlk.lt {w : World} {g : Nat} {L : List Int} (h : IntsBlk w g L) : g < w.heap.size := lt_of_block h
theorem IntsBlk.stays {w w' : World} {g : Nat} {L : List Int} (h : IntsBlk w g L) {S : Nat → Prop} (hS : Stays S w w') (hn : ¬ S g) : IntsBlk w' g L := by
  unfold IntsBlk; rw [hS.block g h.lt hn]; exact h
theorem IntsBlk.below {w w' : World} {g : Nat} {L : List Int} (h : IntsBlk w g L) (hb : Below w.heap.size w w') : IntsBlk w' g L := h.stays (Stays.of_below hb (fun _ => False)) (fun h => h)
theorem IntsBlk.cell {w : World} {g : Nat} {L : List Int} (h : IntsBlk w g L) (j : Nat) (hj : j < L.length) : w.cell? ⟨g, j, none⟩ = some (.int .i64 (L.getD j 0)) := by
  rw [cell_of_row _ _ _ _ _ _ h]
  simp [intsC, List.getD_eq_getElem?_getD, List.getElem?_eq_getElem hj]
theorem IntsBlk.frozen {w : World} {g : Nat} {L : List Int} (h : IntsBlk w g L) (j : Nat) : w.frozen? ⟨g, j, none⟩ = false := by
  unfold IntsBlk at h
  simp [World.frozen?, h]
theorem IntsBlk.set {w : World} {g : Nat} {L : List Int} (h : IntsBlk w g L) (j : Nat) (v : Int) : IntsBlk (w.setCell ⟨g, j, none⟩ (.int .i64 v)) g (L.set j v) := by
  unfold IntsBlk
  rw [block_setCell _ _ _ _ _ _ h]
  congr 2
  simp [intsC, List.map_set]
theorem IntsBlk.other {w : World} {g : Nat} {L : List Int} (h : IntsBlk w g L) (p : Addr) (u : Value) (hp : p.block ≠ g) : IntsBlk (w.setCell p u) g L := by
  unfold IntsBlk; rw [Below.heap_setCell w p u g (fun e => hp e.symm)]; exact h
theorem IntsBlk.ints {w : World} {g : Nat} {L : List Int} (h : IntsBlk w g L) (hl : L.length ≤ 17592186044415) (hn : ∀ n ∈ L, -9223372036854775808 ≤ n ∧ n ≤ 9223372036854775807) : IntsAt w (some ⟨g, 0, none⟩) L :=
  ⟨hl, hn, fun _ => ⟨g, 0, rfl, fun j hj => by rw [Nat.zero_add]; exact h.cell j hj⟩⟩
set_option maxRecDepth 20000 in
set_option maxHeartbeats 3200000 in
theorem number_spec (q : Nat) (s : ByteArray) (hs : s.size ≤ 1000000000000000000) (a : Nat) (ha : a ≤ 8 * s.size) (k : Int) (k0 : 0 ≤ k) (k1 : k ≤ 31) (w : World) (h : Rd w q s a) :
    Calls Try.prog 63 #[.pointer (some ⟨q, 0, none⟩), .int .i64 k] w fun en w' => en = .returned (.tuple #[.int .i64 (getV s a k), .bool (getE s a k == 0)]) ∧ Rd w' q s (getA s a k) ∧ Stays (only q) w w' := by
  have kg := get_all s hs a ha w q k h
  obtain ⟨v0, v1⟩ := getV_bound s a k
  have v2 : getV s a k ≤ 4294967296 := by
    have hp : (2 : Int) ^ k.toNat ≤ 2 ^ 31 := by
      have e1 : ((2 ^ k.toNat : Nat) : Int) = 2 ^ k.toNat := by simp
      have e2 : (2 : Nat) ^ k.toNat ≤ 2 ^ 31 := Nat.pow_le_pow_right (by decide) (by omega)
      have e3 : (2 : Nat) ^ 31 = 2147483648 := by decide
      rw [← e1]
      have e4 : (2 : Int) ^ 31 = 2147483648 := by decide
      omega
    have e4 : (2 : Int) ^ 31 = 2147483648 := by decide
    omega
  clear v1
  generalize getV s a k = v at *
  generalize getE s a k = ev at *
  go_enter Try.func63, Try.ntmps63
  go_wp2_with fail
  refine kg.mono ?_
  rintro e w2 ⟨rfl, h2, h3⟩
  have HH : Hid (Rd w2 q s (getA s a k) ∧ Stays (only q) w w2) := ⟨h2, h3⟩
  clear h2 h3 kg
  go_wp2_with fail
  go_ret2
  exact ⟨rfl, HH.out⟩
theorem ric_bound (s : ByteArray) (a : Nat) (k : Int) (k1 : k ≤ 30) : -9223372036854775808 ≤ ricV s a k ∧ ricV s a k ≤ 9223372036854775807 := by
  unfold ricV; split
  · rename_i h0
    unfold ricE at h0
    split at h0
    · cases h0
    · split at h0
      · rename_i hu
        have hl : lead (ahead s a) ≤ 16777216 := by
          unfold unaE at hu
          split at hu
          · cases hu
          · omega
        have hb := bitsAt_lt s (a + lead (ahead s a) + 1) k.toNat
        have hp : 2 ^ k.toNat ≤ 2 ^ 30 := Nat.pow_le_pow_right (by decide) (by omega)
        have e3 : (2 : Nat) ^ 30 = 1073741824 := by decide
        have hm := Nat.mul_le_mul hl hp
        unfold unfoldN
        split <;> omega
      · rename_i hx; exact absurd h0 hx
  · decide
theorem sgn_bound (s : ByteArray) (a : Nat) (k : Int) (k1 : k ≤ 31) : -9223372036854775808 ≤ sgnV s a k ∧ sgnV s a k ≤ 9223372036854775807 := by
  unfold sgnV; split
  · have hb := bitsAt_lt s a k.toNat
    have hp : 2 ^ k.toNat ≤ 2 ^ 31 := Nat.pow_le_pow_right (by decide) (by omega)
    have e3 : (2 : Nat) ^ 31 = 2147483648 := by decide
    have e5 : (2 : Int) ^ k.toNat = ((2 ^ k.toNat : Nat) : Int) := by simp
    unfold sgn
    rw [e5]
    split <;> omega
  · decide
theorem rd_bound (s : ByteArray) (a : Nat) (k e : Int) (hk : k ≤ 30) (he : e ≤ 31) : -9223372036854775808 ≤ rdV s a k e ∧ rdV s a k e ≤ 9223372036854775807 := by
  unfold rdV; split
  · exact ric_bound s a k hk
  · split
    · decide
    · exact sgn_bound s a e he
theorem rdAll_num {s : ByteArray} {k e : Int} {n : Nat} {a a1 : Nat} {X : List Int} (hk : k ≤ 30) (he : e ≤ 31) (h : rdAll s k e n a = some (X, a1)) : ∀ x ∈ X, -9223372036854775808 ≤ x ∧ x ≤ 9223372036854775807 := by
  induction n generalizing X a1 with
  | zero => unfold rdAll at h; cases h; intro x hx; cases hx
  | succ n ih =>
    unfold rdAll at h
    cases hq : rdAll s k e n a with
    | none => rw [hq] at h; cases h
    | some p =>
      obtain ⟨Y, a2⟩ := p
      rw [hq] at h
      simp only at h
      split at h
      · cases h
        intro x hx
        rcases List.mem_append.1 hx with hx | hx
        · exact ih hq x hx
        · rw [List.mem_singleton] at hx; rw [hx]; exact rd_bound s a2 k e hk he
      · cases h
set_option maxRecDepth 20000 in
set_option maxHeartbeats 3200000 in
theorem readOne_spec (q : Nat) (s : ByteArray) (hs : s.size ≤ 1000000000000000000) (a : Nat) (ha : a ≤ 8 * s.size) (k e : Int) (he : ¬ e = 0) (w : World) (h : Rd w q s a) :
    Calls Try.prog 64 #[.pointer (some ⟨q, 0, none⟩), .int .i64 k, .int .i64 e] w fun en w' => en = .returned (.tuple #[.int .i64 (rdV s a k e), .int .i64 (rdE s a k e)]) ∧ Rd w' q s (rdA s a k e) ∧ Stays (only q) w w' := by
  by_cases h1 : e = -1
  · subst h1
    have kg := rice_all s hs a ha w q k h
    have e1 : rdV s a k (-1) = ricV s a k := by unfold rdV; rw [if_pos rfl]
    have e2 : rdE s a k (-1) = ricE s a k := by unfold rdE; rw [if_pos rfl]
    have e3 : rdA s a k (-1) = ricA s a k := by unfold rdA; rw [if_pos rfl]
    rw [e1, e2, e3]
    clear e1 e2 e3
    generalize ricV s a k = v at *
    generalize ricE s a k = ev at *
    go_enter Try.func64, Try.ntmps64
    go_wp2_with fail
    refine kg.mono ?_
    rintro e w2 ⟨rfl, h2, h3⟩
    have HH : Hid (Rd w2 q s (ricA s a k) ∧ Stays (only q) w w2) := ⟨h2, h3⟩
    clear h2 h3 kg
    go_wp2_with fail
    go_ret2
    exact ⟨rfl, HH.out⟩
  · have kg := signed_all s hs a ha w q e h
    have hb : (e == -1) = false := by rw [beq_eq_false_iff_ne]; exact h1
    have e1 : rdV s a k e = sgnV s a e := by unfold rdV; rw [if_neg h1, if_neg he]
    have e2 : rdE s a k e = sgnE s a e := by unfold rdE; rw [if_neg h1, if_neg he]
    have e3 : rdA s a k e = sgnA s a e := by unfold rdA; rw [if_neg h1, if_neg he]
    rw [e1, e2, e3]
    clear e1 e2 e3
    generalize sgnV s a e = v at *
    generalize sgnE s a e = ev at *
    go_enter Try.func64, Try.ntmps64
    go_wp2_with fail
    refine kg.mono ?_
    rintro e' w2 ⟨rfl, h2, h3⟩
    have HH : Hid (Rd w2 q s (sgnA s a e) ∧ Stays (only q) w w2) := ⟨h2, h3⟩
    clear h2 h3 kg
    go_wp2_with fail
    go_ret2
    exact ⟨rfl, HH.out⟩

end Go.Proofs.Ytdlakbgcflekkaa
