/- Own text: the list of deeds that were done, which the law gathers: how it grows, and the writer beside it. -/
import Derived.Test.YtkikoamaceajcaaBacklist
import Derived.Test.YtkikoamaceajcaaDeedargs
namespace Go.Proofs.Ytkikoamaceajcaa
open Go.RowKit
set_option linter.unusedSimpArgs false
set_option linter.unusedVariables false

theorem Try.info32 : (Try.prog.info? 32).map (fun i => (i.zero, i.size, i.bytes)) = some (some (.agg #[.int .i64 0, .int .i64 0, .int .i64 0, .int .u64 0]), 4, 32) := by kernel_rfl

/-- An append to an owned slice of elements of 'size' cells, both arms. -/
theorem run_append_sized {P : Program} (w : World) (t ty e : TypeId) (i : TypeInfo) (z : Value) (size bytes : Nat) (ht : P.underlying t = some (.slice e)) (hi : P.info? e = some i) (hz : i.zero = some z)
    (hsize : i.size = size) (hby : i.bytes = bytes) (hzs : z.cells.size = size) (hsz : 0 < size)
    (ao : Option Addr) (cap n : Nat) (xs : List Value) (hown : w.ownsRow 0 e size (.slice ao n cap) n xs)
    (a : Addr) (m c : Nat) (news : List Value) (hl : news.length = m * size) (hnews : ∀ j u, news[j]? = some u → w.cell? (a.add j) = some u) (h1 : ∀ u ∈ news, u.oneCell' = true)
    (h63 : n + m ≤ maxLen) (hbytes : (n + m) * bytes ≤ 140737488355328) :
    ∃ ao' cap' w', (Builtin.append_ #[t, t] ty #[.slice ao n cap, .slice (some a) m c]).run P w = .ok (.slice ao' (n + m) cap') w' ∧ w'.ownsRow 0 e size (.slice ao' (n + m) cap') (n + m) (xs ++ news) ∧
      w.grownBy w' (blockOf ao) ∧ Moved w.heap.size ao ao' := by
  have hsh := owns_shape hown
  obtain ⟨ao1, cap1, hv, hcm, hnc, hnone, hsome⟩ := hsh
  simp only [Value.slice.injEq, true_and] at hv
  obtain ⟨rfl, rfl⟩ := hv
  cases ao with
  | none =>
    obtain ⟨rfl, rfl⟩ := hnone rfl
    obtain rfl : xs = [] := List.eq_nil_of_length_eq_zero (by simpa using hown.1)
    obtain ⟨v', w', hrun, r1, r2, _⟩ := run_append_own (P := P) w w.heap.size t ty e i z size bytes ht hi hz hsize hby hzs hsz (.slice none 0 0) 0 [] (World.ownsRow_nil w _ e size) a m c news hl hnews h1 h63 hbytes (Nat.le_refl _)
    obtain ⟨ao', cap', rfl, _, _, _, hs'⟩ := owns_shape r1
    refine ⟨ao', cap', w', hrun, owns_weaken r1, r2, fun b hb => .inr ?_⟩
    cases ao' with
    | none => cases hb
    | some a' => cases hb; exact (hs' a' rfl).2.1
  | some a0 =>
    obtain ⟨h0, _, hlt⟩ := hsome a0 rfl
    obtain ⟨g, rfl⟩ : ∃ g, a0 = ⟨g, 0, none⟩ := ⟨_, h0⟩
    by_cases hroom : n + m ≤ cap
    · obtain ⟨w', hrun, r1, r2⟩ := run_append_fits (P := P) w 0 t ty e i size ht hi hsize g n cap xs hown a m c news hl hnews h1 hroom
      exact ⟨_, _, w', hrun, r1, r2, Moved.refl _ _⟩
    · obtain ⟨v', w', hrun, r1, r2⟩ := run_append_arg_grows (P := P) w t ty e i z size bytes ht hi hz hsize hby hzs hsz ⟨g, 0, none⟩ n cap xs hown.1 (hown.cells (g := g) rfl) a m c news hl hnews (by omega) h63 hbytes
      obtain ⟨ao', cap', rfl, _, _, _, hs'⟩ := owns_shape r1
      refine ⟨ao', cap', w', hrun, owns_weaken r1, ⟨r2.os, r2.tape, r2.output, r2.size, fun k hk _ => r2.block k hk (by simp)⟩, fun b hb => .inr ?_⟩
      cases ao' with
      | none => cases hb
      | some a' => cases hb; exact (hs' a' rfl).2.1

theorem wpList_append_sized {P : Program} (w : World) {ops : Array Oper} {rest : List Oper} {o : Oper} {a : Act} {Q : Exit → Act → World → Prop} (hgd : o.guard = none) (s x : Operand) (t : TypeId)
    (ho : o.op = .call { callee := .builtin .append, args := #[s, x], argTypes := #[t, t] })
    (e : TypeId) (i : TypeInfo) (z : Value) (size bytes : Nat) (ht : P.underlying t = some (.slice e)) (hi : P.info? e = some i) (hz : i.zero = some z)
    (hsize : i.size = size) (hby : i.bytes = bytes) (hzs : z.cells.size = size) (hsz : 0 < size)
    (ao : Option Addr) (cap n : Nat) (xs : List Value) (hs : a.eval s = .slice ao n cap) (hown : w.ownsRow 0 e size (.slice ao n cap) n xs)
    (ad : Addr) (m c : Nat) (news : List Value) (hx : a.eval x = .slice (some ad) m c) (hl : news.length = m * size) (hnews : ∀ j u, news[j]? = some u → w.cell? (ad.add j) = some u) (h1 : ∀ u ∈ news, u.oneCell' = true)
    (h63 : n + m ≤ maxLen) (hbytes : (n + m) * bytes ≤ 140737488355328)
    (h : ∀ ao' cap' w', w'.ownsRow 0 e size (.slice ao' (n + m) cap') (n + m) (xs ++ news) → w.grownBy w' (blockOf ao) → Moved w.heap.size ao ao' → wpList P ops Q rest (a.put o.dst (.slice ao' (n + m) cap')) w') : wpList P ops Q (o :: rest) a w := by
  refine wpList_plain hgd fun K hK => ?_
  obtain ⟨ao', cap', w', hrun, r1, r2, r3⟩ := run_append_sized (P := P) w t o.type e i z size bytes ht hi hz hsize hby hzs hsz ao cap n xs hown ad m c news hl hnews h1 h63 hbytes
  unfold Oper.wp
  simp [execOp, ho, resolve, invoke, builtin, hs, hx, hrun, Result.andThen]
  exact hK _ _ (h ao' cap' w' r1 r2 r3)

/-- A deed: kind, width, number, unsigned number. -/
def Deed4 : Type := Int × Int × Int × Int
def mkd (K W N U : Int) : Deed4 := (K, W, N, U)
def dcell (d : Deed4) : List Value := [.int .i64 d.1, .int .i64 d.2.1, .int .i64 d.2.2.1, .int .u64 d.2.2.2]
def dcells (L : List Deed4) : List Value := L.flatMap dcell
def encStep (B : List Nat) (d : Deed4) : List Nat := B ++ dB B d.1 d.2.1 d.2.2.1 d.2.2.2
/-- The bits that deeds write. -/
def enc (L : List Deed4) : List Nat := L.foldl encStep []

theorem dcells_append (L M : List Deed4) : dcells (L ++ M) = dcells L ++ dcells M := by unfold dcells; rw [List.flatMap_append]
theorem enc_snoc (L : List Deed4) (d : Deed4) : enc (L ++ [d]) = encStep (enc L) d := by unfold enc; rw [List.foldl_append]; rfl

theorem enc_from (L : List Deed4) (B : List Nat) : ∃ R, L.foldl encStep B = B ++ R := by
  induction L generalizing B with
  | nil => exact ⟨[], by simp⟩
  | cons d t ih =>
    obtain ⟨R, hR⟩ := ih (encStep B d)
    refine ⟨dB B d.1 d.2.1 d.2.2.1 d.2.2.2 ++ R, ?_⟩
    rw [List.foldl_cons, hR]
    unfold encStep
    rw [List.append_assoc]

theorem enc_split (L : List Deed4) (j : Nat) (hj : j < L.length) : ∃ R, enc L = enc (L.take j) ++ dB (enc (L.take j)) L[j].1 L[j].2.1 L[j].2.2.1 L[j].2.2.2 ++ R := by
  have e : L = L.take (j + 1) ++ L.drop (j + 1) := (List.take_append_drop _ _).symm
  obtain ⟨R, hR⟩ := enc_from (L.drop (j + 1)) (enc (L.take (j + 1)))
  refine ⟨R, ?_⟩
  have e1 : enc L = enc (L.take (j + 1)) ++ R := by
    rw [← hR]
    show L.foldl encStep [] = _
    conv => lhs; rw [e]
    rw [List.foldl_append]
    rfl
  rw [e1, List.take_succ_eq_append_getElem hj, enc_snoc]
  rfl

theorem enc_take_succ (L : List Deed4) (j : Nat) (hj : j < L.length) : enc (L.take (j + 1)) = enc (L.take j) ++ dB (enc (L.take j)) L[j].1 L[j].2.1 L[j].2.2.1 L[j].2.2.2 := by
  rw [List.take_succ_eq_append_getElem hj, enc_snoc]
  rfl

theorem enc_01 (L : List Deed4) : Bits01 (enc L) := by
  have : ∀ (L : List Deed4) (B : List Nat), Bits01 B → Bits01 (L.foldl encStep B) := by
    intro L
    induction L with
    | nil => intro B hB; exact hB
    | cons d t ih => intro B hB; exact ih _ (hB.append (dB_01 _ _ _ _ _))
  exact this L [] Bits01.nil

theorem enc_len (L : List Deed4) : (enc L).length ≤ L.length * 17000000 := by
  have : ∀ (L : List Deed4) (B : List Nat), (L.foldl encStep B).length ≤ B.length + L.length * 17000000 := by
    intro L
    induction L with
    | nil => intro B; simp
    | cons d t ih =>
      intro B
      have h1 := ih (encStep B d)
      have h2 := dB_len B d.1 d.2.1 d.2.2.1 d.2.2.2
      have h3 : (encStep B d).length = B.length + (dB B d.1 d.2.1 d.2.2.1 d.2.2.2).length := by unfold encStep; rw [List.length_append]
      rw [List.foldl_cons, List.length_cons]
      omega
  have h := this L []
  simpa [enc] using h

theorem dcells_length (L : List Deed4) : (dcells L).length = L.length * 4 := by
  induction L with
  | nil => rfl
  | cons d t ih =>
    have e : dcells (d :: t) = dcell d ++ dcells t := rfl
    rw [e, List.length_append, ih, List.length_cons]
    simp [dcell]
    omega

theorem dcells_at (L : List Deed4) (j r : Nat) (hj : j < L.length) (hr : r < 4) : (dcells L)[j * 4 + r]? = (dcell L[j])[r]? := by
  induction L generalizing j with
  | nil => simp at hj
  | cons d t ih =>
    have e : dcells (d :: t) = dcell d ++ dcells t := rfl
    have hl : (dcell d).length = 4 := rfl
    cases j with
    | zero => rw [e, List.getElem?_append_left (by omega)]; simp
    | succ j =>
      have hj' : j < t.length := by simpa using hj
      rw [e, List.getElem?_append_right (by omega), hl, show (j + 1) * 4 + r - 4 = j * 4 + r from by omega, ih j hj']
      rfl

/-- Deeds that were done: without an error, and within their kinds' bounds. -/
def Good (d : Deed4) : Prop := dE d.1 d.2.1 d.2.2.1 d.2.2.2 = 0 ∧ 0 ≤ d.2.2.2 ∧ d.2.2.2 ≤ 18446744073709551615

theorem own_ne {w : World} {e1 e2 size n cap p : Nat} {a : Option Addr} {xs : List Value} {cs : Array Value} (h : w.ownsRow 0 e1 size (.slice a n cap) n xs) (hp : w.heap[p]? = some (.cells cs e2 (0, 0))) (hne : e1 ≠ e2) : blockOf a ≠ some p := by
  intro e
  rcases h.2 with ⟨hv, _⟩ | ⟨g, cap', cur, hv, _, hg, _⟩
  · simp only [Value.slice.injEq] at hv
    rw [hv.1] at e
    cases e
  · simp only [Value.slice.injEq, true_and] at hv
    rw [hv.1] at e
    simp only [blockOf, Option.map_some, Option.some.injEq] at e
    rw [← e, hg] at hp
    simp at hp
    exact hne hp.2

theorem own_own_ne {w : World} {e1 e2 s1 s2 n1 n2 c1 c2 : Nat} {a b : Option Addr} {xs ys : List Value} (h : w.ownsRow 0 e1 s1 (.slice a n1 c1) n1 xs) (k : w.ownsRow 0 e2 s2 (.slice b n2 c2) n2 ys) (hne : e1 ≠ e2) : ∀ g, blockOf b = some g → blockOf a ≠ some g := by
  intro g hg
  rcases k.2 with ⟨hv, _⟩ | ⟨g', cap', cur, hv, _, hh, _⟩
  · simp only [Value.slice.injEq] at hv
    rw [hv.1] at hg
    cases hg
  · simp only [Value.slice.injEq, true_and] at hv
    rw [hv.1] at hg
    simp only [blockOf, Option.map_some, Option.some.injEq] at hg
    subst hg
    exact own_ne h hh hne

theorem own_stays {w w' : World} {e size n cap : Nat} {a : Option Addr} {xs : List Value} {S : Nat → Prop} (h : w.ownsRow 0 e size (.slice a n cap) n xs) (hS : Stays S w w') (ha : ∀ b, blockOf a = some b → ¬ S b) : w'.ownsRow 0 e size (.slice a n cap) n xs := by
  refine ⟨h.1, ?_⟩
  rcases h.2 with h0 | ⟨g, cap', cur, hv, hb, hg, r⟩
  · exact .inl h0
  · refine .inr ⟨g, cap', cur, hv, hb, ?_, r⟩
    simp only [Value.slice.injEq, true_and] at hv
    rw [hS.block g (lt_of_block hg) (ha g (by simp [blockOf, hv.1]))]
    exact hg

theorem own_block_lt {w : World} {e size n cap : Nat} {a : Option Addr} {xs : List Value} (h : w.ownsRow 0 e size (.slice a n cap) n xs) : ∀ b, blockOf a = some b → b < w.heap.size := by
  intro b hb
  obtain ⟨ao1, cap1, hv, _, _, _, hs⟩ := owns_shape h
  simp only [Value.slice.injEq, true_and] at hv
  obtain ⟨rfl, rfl⟩ := hv
  cases a with
  | none => cases hb
  | some a => cases hb; exact (hs a rfl).2.2

/-- The writer and the list of what was done, from block N on. -/
structure Bk (N : Nat) (w0 w : World) (p : Nat) (ao lo : Option Addr) (lcap : Nat) (B : List Nat) (L : List Deed4) : Prop where
  wr : WrB w p ao B
  own : w.ownsRow 0 32 4 (.slice lo L.length lcap) L.length (dcells L)
  hp : N ≤ p
  aoN : ∀ b, blockOf ao = some b → N ≤ b
  loN : ∀ b, blockOf lo = some b → N ≤ b
  below : Below N w0 w

section
variable {N : Nat} {w0 w w' : World} {p : Nat} {ao ao' lo lo' : Option Addr} {lcap lcap' : Nat} {B B' : List Nat} {L L' : List Deed4}

theorem Bk.size (h : Bk N w0 w p ao lo lcap B L) : N ≤ w.heap.size := by have := h.wr.lt; have := h.hp; omega

theorem Bk.later (h : Bk N w0 w p ao lo lcap B L) (hb : Below w.heap.size w w') : Bk N w0 w' p ao lo lcap B L :=
  ⟨h.wr.below hb, own_stays h.own (Stays.of_below hb (fun _ => False)) (fun _ _ h => h), h.hp, h.aoN, h.loN, h.below.trans (hb.mono h.size)⟩

theorem Bk.lo_ne (h : Bk N w0 w p ao lo lcap B L) : blockOf lo ≠ some p ∧ ∀ b, blockOf ao = some b → blockOf lo ≠ some b := by
  obtain ⟨cap, hW⟩ := h.wr
  exact ⟨own_ne h.own hW.blk (by decide), own_own_ne h.own hW.own (by decide)⟩

theorem Bk.write (h : Bk N w0 w p ao lo lcap B L) (hw : WrB w' p ao' B') (hS : Stays (foot p ao) w w') (hM : Moved w.heap.size ao ao') : Bk N w0 w' p ao' lo lcap B' L := by
  obtain ⟨h1, h2⟩ := h.lo_ne
  refine ⟨hw, own_stays h.own hS (fun b hb hf => ?_), h.hp, fun b hb => ?_, h.loN, h.below.trans (foot_below hS h.size h.hp h.aoN)⟩
  · rcases hf with hf | hf
    · exact h1 (by rw [hb, hf])
    · exact h2 b hf hb
  · rcases hM b hb with g | g
    · exact h.aoN b g
    · have := h.size; omega

theorem Bk.push (h : Bk N w0 w p ao lo lcap B L) (hg : w.grownBy w' (blockOf lo)) (hM : Moved w.heap.size lo lo') (n' : Nat) (hn : n' = L'.length) (hown : w'.ownsRow 0 32 4 (.slice lo' n' lcap') n' (dcells L')) : Bk N w0 w' p ao lo' lcap' B L' := by
  subst hn
  obtain ⟨h1, h2⟩ := h.lo_ne
  have hS : Stays (fun k => blockOf lo = some k) w w' := Stays.of_grown hg (fun k hk => hk)
  refine ⟨h.wr.stays hS h1 (fun b hb hf => h2 b hb hf), hown, h.hp, h.aoN, fun b hb => ?_, h.below.trans (hS.below h.size (fun i hi hf => by have := h.loN i hf; omega))⟩
  rcases hM b hb with g | g
  · exact h.loN b g
  · have := h.size; omega
end

theorem put_err (U W : Int) (h : putE U W ≠ 0) : putB U W = [] := by unfold putE at h; unfold putB; split <;> simp_all
theorem sig_err (N W : Int) (h : sigE N W ≠ 0) : sigB N W = [] := by unfold sigE at h; unfold sigB; split <;> simp_all
theorem unr_err (N : Int) (h : unrE N ≠ 0) : unrB N = [] := by unfold unrE at h; unfold unrB; split <;> simp_all
theorem ric_err (N W : Int) (h : rcwE N W ≠ 0) : rcwB N W = [] := by unfold rcwE at h; unfold rcwB; split <;> simp_all
end Go.Proofs.Ytkikoamaceajcaa
