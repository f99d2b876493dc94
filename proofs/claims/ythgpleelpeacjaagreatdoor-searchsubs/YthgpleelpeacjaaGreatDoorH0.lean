/- Own text. -/
import Derived.WalkKit
import Derived.ArgAppend
set_option linter.unusedSimpArgs false
set_option linter.unusedVariables false
set_option maxRecDepth 20000
set_option maxHeartbeats 12800000
namespace Go.Proofs.YthgpleelpeacjaaGreatDoor
open Go.RowKit
structure Stays (S : Nat → Prop) (w w' : World) : Prop where
 os : w'.os = w.os
 tape : w'.tape = w.tape
 output : w'.output = w.output
 size : w.heap.size ≤ w'.heap.size
 block : ∀ k, k < w.heap.size → ¬ S k → w'.heap[k]? = w.heap[k]?
theorem Stays.refl (S : Nat → Prop) (w : World) : Stays S w w := ⟨rfl, rfl, rfl, Nat.le_refl _, fun _ _ _ => rfl⟩
theorem Stays.trans {S T : Nat → Prop} {a b c : World} (h : Stays S a b) (k : Stays T b c) (hST : ∀ i, i < a.heap.size → T i → S i) : Stays S a c :=
 ⟨k.os.trans h.os, k.tape.trans h.tape, k.output.trans h.output, Nat.le_trans h.size k.size,
  fun i hi hs => (k.block i (Nat.lt_of_lt_of_le hi h.size) (fun ht => hs (hST i hi ht))).trans (h.block i hi hs)⟩
theorem Stays.drew {S : Nat → Prop} {a w : World} (h : Stays S a w) : Stays S a w.drew := ⟨h.os, h.tape, h.output, h.size, h.block⟩
theorem Stays.below {S : Nat → Prop} {a w : World} (h : Stays S a w) {B : Nat} (hB : B ≤ a.heap.size) (hS : ∀ i, i < B → ¬ S i) : Below B a w :=
 ⟨h.os, h.tape, h.output, h.size, fun k hk => h.block k (Nat.lt_of_lt_of_le hk hB) (hS k hk)⟩
theorem Stays.of_below {w w' : World} (h : Below w.heap.size w w') (S : Nat → Prop) : Stays S w w' :=
 ⟨h.os, h.tape, h.output, h.size, fun k hk _ => h.block k hk⟩
theorem Stays.of_grown {w w' : World} {row : Option Nat} (h : w.grownBy w' row) {S : Nat → Prop} (hS : ∀ k, row = some k → S k) : Stays S w w' :=
 ⟨h.os, h.tape, h.output, h.size, fun k hk hs => h.block k hk (fun e => hs (hS k e.symm))⟩
theorem Stays.setCell {S : Nat → Prop} {a w : World} (h : Stays S a w) (p : Addr) (u : Value) (hp : S p.block ∨ a.heap.size ≤ p.block) : Stays S a (w.setCell p u) :=
 ⟨h.os, h.tape, h.output, by simpa [World.setCell] using h.size, fun k hk hs => by
  rw [Below.heap_setCell w p u k (by rintro rfl; rcases hp with hp | hp; exact hs hp; omega)]; exact h.block k hk hs⟩
def blockOf (ao : Option Addr) : Option Nat := ao.map (·.block)
def Moved (size : Nat) (ao ao' : Option Addr) : Prop := ∀ b, blockOf ao' = some b → blockOf ao = some b ∨ size ≤ b
theorem Moved.refl (n : Nat) (ao : Option Addr) : Moved n ao ao := fun _ h => .inl h
theorem Moved.trans {n m : Nat} {a b c : Option Addr} (h : Moved n a b) (k : Moved m b c) (hnm : n ≤ m) : Moved n a c := fun x hx => by
 rcases k x hx with h1 | h1
 ·exact h x h1
 ·exact .inr (by omega)
theorem owns_shape {w : World} {base e size : Nat} {v : Value} {n : Nat} {xs : List Value} (h : w.ownsRow base e size v n xs) : ∃ ao cap, v = .slice ao n cap ∧ cap ≤ maxLen ∧ n ≤ cap ∧ (ao = none → n = 0 ∧ cap = 0) ∧ (∀ a, ao = some a → a = ⟨a.block, 0, none⟩ ∧ base ≤ a.block ∧ a.block < w.heap.size) := by
 rcases h.2 with ⟨rfl, rfl⟩ | ⟨g, cap, cur, rfl, hb, hg, hn, hm, _⟩
 ·exact ⟨none, 0, rfl, by simp, by simp, fun _ => ⟨rfl, rfl⟩, fun a h => by cases h⟩
 ·refine ⟨some ⟨g, 0, none⟩, cap, rfl, hm, hn, fun h => by (cases h), fun a h => ?_⟩
  cases h
  exact ⟨rfl, hb, lt_of_block hg⟩
theorem owns_weaken {w : World} {base e size : Nat} {v : Value} {n : Nat} {xs : List Value} (h : w.ownsRow base e size v n xs) : w.ownsRow 0 e size v n xs := by
 refine ⟨h.1, ?_⟩
 rcases h.2 with h | ⟨g, cap, cur, hv, _, r⟩
 ·exact .inl h
 ·exact .inr ⟨g, cap, cur, hv, Nat.zero_le _, r⟩
theorem owns_alloc {w : World} {base e size : Nat} {v : Value} {n : Nat} {xs : List Value} (h : w.ownsRow base e size v n xs) (o : Obj) : (w.alloc o).ownsRow base e size v n xs := h.alloc o
theorem run_append_mine {P : Program} (w : World) (t ty e : TypeId) (i : TypeInfo) (z : Value) (bytes : Nat) (ht : P.underlying t = some (.slice e)) (hi : P.info? e = some i) (hz : i.zero = some z)
  (hsize : i.size = 1) (hby : i.bytes = bytes) (hzs : z.cells.size = 1)
  (ao : Option Addr) (cap n : Nat) (xs : List Value) (hown : w.ownsRow 0 e 1 (.slice ao n cap) n xs)
  (a : Addr) (m c : Nat) (news : List Value) (hl : news.length = m) (hnews : ∀ j u, news[j]? = some u → w.cell? (a.add j) = some u) (h1 : ∀ u ∈ news, u.oneCell' = true)
  (h63 : n + m ≤ maxLen) (hbytes : (n + m) * bytes ≤ 140737488355328) :
  ∃ ao' cap' w', (Builtin.append_ #[t, t] ty #[.slice ao n cap, .slice (some a) m c]).run P w = .ok (.slice ao' (n + m) cap') w' ∧ w'.ownsRow 0 e 1 (.slice ao' (n + m) cap') (n + m) (xs ++ news) ∧
   w.grownBy w' (blockOf ao) ∧ Moved w.heap.size ao ao' := by
 have hsh := owns_shape hown
 obtain ⟨ao1, cap1, hv, hcm, hnc, hnone, hsome⟩ := hsh
 simp only [Value.slice.injEq, true_and] at hv
 obtain ⟨rfl, rfl⟩ := hv
 cases ao with
 | none =>
  obtain ⟨rfl, rfl⟩ := hnone rfl
  obtain rfl : xs = [] := List.eq_nil_of_length_eq_zero (by simpa using hown.1)
  obtain ⟨v', w', hrun, r1, r2, _⟩ := run_append_own (P := P) w w.heap.size t ty e i z 1 bytes ht hi hz hsize hby hzs (by decide) (.slice none 0 0) 0 [] (World.ownsRow_nil w _ e 1) a m c news (by omega) hnews h1 h63 hbytes (Nat.le_refl _)
  obtain ⟨ao', cap', rfl, _, _, _, hs'⟩ := owns_shape r1
  refine ⟨ao', cap', w', hrun, owns_weaken r1, r2, fun b hb => .inr ?_⟩
  cases ao' with
  | none => cases hb
  | some a' => cases hb; exact (hs' a' rfl).2.1
 | some a0 =>
  obtain ⟨h0, _, hlt⟩ := hsome a0 rfl
  obtain ⟨g, rfl⟩ : ∃ g, a0 = ⟨g, 0, none⟩ := ⟨_, h0⟩
  by_cases hroom : n + m ≤ cap
  ·obtain ⟨w', hrun, r1, r2⟩ := run_append_fits (P := P) w 0 t ty e i 1 ht hi hsize g n cap xs hown a m c news (by omega) hnews h1 hroom
   exact ⟨_, _, w', hrun, r1, r2, Moved.refl _ _⟩
  ·obtain ⟨v', w', hrun, r1, r2⟩ := run_append_arg_grows (P := P) w t ty e i z 1 bytes ht hi hz hsize hby hzs (by decide) ⟨g, 0, none⟩ n cap xs hown.1 (hown.cells (g := g) rfl) a m c news (by omega) hnews (by omega) h63 hbytes
   obtain ⟨ao', cap', rfl, _, _, _, hs'⟩ := owns_shape r1
   refine ⟨ao', cap', w', hrun, owns_weaken r1, ⟨r2.os, r2.tape, r2.output, r2.size, fun k hk _ => r2.block k hk (by simp)⟩, fun b hb => .inr ?_⟩
   cases ao' with
   | none => cases hb
   | some a' => cases hb; exact (hs' a' rfl).2.1
theorem wpList_append_mine {P : Program} (w : World) {ops : Array Oper} {rest : List Oper} {o : Oper} {a : Act} {Q : Exit → Act → World → Prop} (hgd : o.guard = none) (s x : Operand) (t : TypeId)
  (ho : o.op = .call { callee := .builtin .append, args := #[s, x], argTypes := #[t, t] })
  (e : TypeId) (i : TypeInfo) (z : Value) (bytes : Nat) (ht : P.underlying t = some (.slice e)) (hi : P.info? e = some i) (hz : i.zero = some z)
  (hsize : i.size = 1) (hby : i.bytes = bytes) (hzs : z.cells.size = 1)
  (ao : Option Addr) (cap n : Nat) (xs : List Value) (hs : a.eval s = .slice ao n cap) (hown : w.ownsRow 0 e 1 (.slice ao n cap) n xs)
  (ad : Addr) (m c : Nat) (news : List Value) (hx : a.eval x = .slice (some ad) m c) (hl : news.length = m) (hnews : ∀ j u, news[j]? = some u → w.cell? (ad.add j) = some u) (h1 : ∀ u ∈ news, u.oneCell' = true)
  (h63 : n + m ≤ maxLen) (hbytes : (n + m) * bytes ≤ 140737488355328)
  (h : ∀ ao' cap' w', w'.ownsRow 0 e 1 (.slice ao' (n + m) cap') (n + m) (xs ++ news) → w.grownBy w' (blockOf ao) → Moved w.heap.size ao ao' → wpList P ops Q rest (a.put o.dst (.slice ao' (n + m) cap')) w') : wpList P ops Q (o :: rest) a w := by
 refine wpList_plain hgd fun K hK => ?_
 obtain ⟨ao', cap', w', hrun, r1, r2, r3⟩ := run_append_mine (P := P) w t o.type e i z bytes ht hi hz hsize hby hzs ao cap n xs hown ad m c news hl hnews h1 h63 hbytes
 unfold Oper.wp
 simp [execOp, ho, resolve, invoke, builtin, hs, hx, hrun, Result.andThen]
 exact hK _ _ (h ao' cap' w' r1 r2 r3)
end Go.Proofs.YthgpleelpeacjaaGreatDoor
