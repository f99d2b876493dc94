/- Own text. -/
import Derived.Test.YthgpleelpeacjaaGreatDoorH13
import Derived.Test.YthgpleelpeacjaaGreatDoorH26
set_option linter.unusedSimpArgs false
set_option linter.unusedVariables false
set_option maxRecDepth 20000
set_option maxHeartbeats 12800000
namespace Go.Proofs.YthgpleelpeacjaaGreatDoor
open Go.RowKit
def OffK (kb : Nat) (ao : Option Addr) (l : List Int) : Prop := 0 < l.length → ∀ b, blockOf ao = some b → b ≠ kb
def UpK (kb : Nat) (ao : Option Addr) (l : List Int) : Prop := 0 < l.length → ∀ b, blockOf ao = some b → kb < b
theorem UpK.off {kb : Nat} {ao : Option Addr} {l : List Int} (h : UpK kb ao l) : OffK kb ao l := fun h0 b hb e => by have := h h0 b hb; omega
theorem UpK.off' {kb k : Nat} {ao : Option Addr} {l : List Int} (h : UpK kb ao l) (hk : k < kb) : OffK k ao l := fun h0 b hb e => by have := h h0 b hb; omega
theorem ints_off {X X' : World} {kb : Nat} {a : Option Addr} {l : List Int} (h : IntsAt X a l) (hS : Stays (only kb) X X') (ho : OffK kb a l) : IntsAt X' a l := by
 refine ⟨h.len, h.num, fun h0 => ?_⟩
 obtain ⟨b, off, e, hc⟩ := h.lies h0
 refine ⟨b, off, e, fun j hj => ?_⟩
 have h3 := hc j hj
 rw [World.cell?_of_block (w := X) (hS.block b (lt_cell h3) (fun e2 => ho h0 b (by rw [e]; rfl) e2))]
 exact h3
theorem sb_off {X X' : World} {kb : Nat} {q : Sb} {ca pa ea : Option Addr} (h : SbAt X q ca pa ea) (hS : Stays (only kb) X X') (h1 : OffK kb ca q.C) (h2 : OffK kb pa q.R.P) (h3 : OffK kb ea q.R.E) : SbAt X' q ca pa ea :=
 ⟨ints_off h.C hS h1, ⟨ints_off h.R.P hS h2, ints_off h.R.E hS h3, h.R.m1, h.R.m2, h.R.o1, h.R.o2⟩, h.k, h.o, h.w, h.p, h.h⟩
def BsX (kb : Nat) (acc : Option (Sb × Nat)) (s : Value) (X : World) : Prop :=
 (acc = none ∧ s = .int .i64 (-1) ∧ X.heap[kb]? = some (.cells (subC ⟨0, 0, 0, 0, 0, [], R00⟩ none 0 none 0 none 0) 27 (0, 0))) ∨ (∃ q n ca cc pa pc ea ec, acc = some (q, n) ∧ s = .int .i64 ((n : Nat) : Int) ∧ X.heap[kb]? = some (.cells (subC q ca cc pa pc ea ec) 27 (0, 0)) ∧ SbAt X q ca pa ea ∧ UpK kb ca q.C ∧ UpK kb pa q.R.P ∧ UpK kb ea q.R.E)
structure LI (w wb : World) (kb : Nat) (acc : Option (Sb × Nat)) (s : Value) (X : World) : Prop where
 st : Stays (only kb) wb X
 rb : X.heap[w.heap.size]? = some (.cells (subC ⟨0, 0, 0, 0, 0, [], R00⟩ none 0 none 0 none 0) 27 (0, 0))
 bs : BsX kb acc s X
 kk : w.heap.size < kb
section
variable {w wb X X' : World} {kb : Nat} {acc : Option (Sb × Nat)} {s : Value}
theorem BsX.lt (h : BsX kb acc s X) : kb < X.heap.size := by
 rcases h with ⟨_, _, h⟩ | ⟨_, _, _, _, _, _, _, _, _, _, h, _⟩
 ·exact lt_of_block h
 ·exact lt_of_block h
theorem BsX.low (h : BsX kb acc s X) (hb : Below X.heap.size X X') : BsX kb acc s X' := by
 rcases h with ⟨h1, h2, h3⟩ | ⟨q, n, ca, cc, pa, pc, ea, ec, h1, h2, h3, h4, h5⟩
 ·exact Or.inl ⟨h1, h2, by rw [hb.block _ (lt_of_block h3)]; exact h3⟩
 ·exact Or.inr ⟨q, n, ca, cc, pa, pc, ea, ec, h1, h2, by rw [hb.block _ (lt_of_block h3)]; exact h3, h4.below hb, h5⟩
theorem LI.low (h : LI w wb kb acc s X) (hb : Below X.heap.size X X') : LI w wb kb acc s X' :=
 ⟨h.st.trans (Stays.of_below hb (only kb)) (fun _ _ e => e), by rw [hb.block _ (lt_of_block h.rb)]; exact h.rb, h.bs.low hb, h.kk⟩
theorem LI.below (h : LI w wb kb acc s X) (hb : Below w.heap.size w wb) : Below w.heap.size w X := hb.trans (h.st.below hb.size (fun i hi e => by have e' : i = kb := e; have := h.kk; omega))
theorem BsX.box (h : BsX kb acc s X) : ∃ q ca cc pa pc ea ec, X.heap[kb]? = some (.cells (subC q ca cc pa pc ea ec) 27 (0, 0)) := by
 rcases h with ⟨h1, h2, h3⟩ | ⟨q, n, ca, cc, pa, pc, ea, ec, h1, h2, h3, h4, h5⟩
 ·exact ⟨_, _, _, _, _, _, _, h3⟩
 ·exact ⟨_, _, _, _, _, _, _, h3⟩
theorem LI.take (h : LI w wb kb acc s X) (q : Sb) (n : Nat) {ca : Option Addr} {cc : Nat} {pa : Option Addr} {pc : Nat} {ea : Option Addr} {ec : Nat} (hq : SbAt X q ca pa ea) (h1 : UpK kb ca q.C) (h2 : UpK kb pa q.R.P) (h3 : UpK kb ea q.R.E) :
  LI w wb kb (some (q, n)) (.int .i64 (n : Int)) ((((((((((X.setCell ⟨kb, 0, none⟩ (.int .i64 q.k)).setCell ⟨kb, 1, none⟩ (.int .i64 q.o)).setCell ⟨kb, 2, none⟩ (.int .i64 q.w)).setCell ⟨kb, 3, none⟩ (.int .i64 q.p)).setCell ⟨kb, 4, none⟩ (.int .i64 q.h)).setCell ⟨kb, 5, none⟩ (.slice ca q.C.length cc)).setCell ⟨kb, 6, none⟩ (.int .i64 q.R.m)).setCell ⟨kb, 7, none⟩ (.int .i64 q.R.o)).setCell ⟨kb, 8, none⟩ (.slice pa q.R.P.length pc)).setCell ⟨kb, 9, none⟩ (.slice ea q.R.E.length ec)) := by
 obtain ⟨q0, a1, a2, a3, a4, a5, a6, hb⟩ := h.bs.box
 have hkk := h.kk
 have hst := set10_c (wx := X) kb (.int .i64 q.k) (.int .i64 q.o) (.int .i64 q.w) (.int .i64 q.p) (.int .i64 q.h) (.slice ca q.C.length cc) (.int .i64 q.R.m) (.int .i64 q.R.o) (.slice pa q.R.P.length pc) (.slice ea q.R.E.length ec) X (only kb) (Or.inl rfl) (Stays.refl _ _)
 refine ⟨h.st.trans hst (fun _ _ e => e), ?_, Or.inr ⟨q, n, ca, cc, pa, pc, ea, ec, rfl, rfl, ?_, sb_off hq hst h1.off h2.off h3.off, h1, h2, h3⟩, hkk⟩
 ·rw [hst.block _ (lt_of_block h.rb) (fun e => by have e' : w.heap.size = kb := e; omega)]; exact h.rb
 ·exact set10_a kb _ _ _ _ _ _ _ _ _ _ hb
end
theorem own_news {w : World} {base e z g n cap : Nat} {xs : List Value} (h : w.ownsRow base e z (.slice (some ⟨g, 0, none⟩) n cap) n xs) : ∀ j u, xs[j]? = some u → w.cell? ((⟨g, 0, none⟩ : Addr).add j) = some u := by
 rcases h.2 with ⟨hv, _⟩ | ⟨g', cap', cur, hv, _, hg, _, _, _, ht⟩
 ·cases hv
 ·cases hv
  intro j u hu
  rw [← ht] at hu
  have hj : j < n * z := by
   rcases Nat.lt_or_ge j (n * z) with h1 | h1
   ·exact h1
   ·rw [List.getElem?_eq_none (by rw [List.length_take]; omega)] at hu; cases hu
  rw [List.getElem?_take_of_lt hj, Array.getElem?_toList] at hu
  rw [Addr.add_mid, Nat.zero_add, cell_of_row _ _ _ _ _ _ hg]
  exact hu
abbrev el2 (wst : Int) : List El := [⟨cnS wst, none, 0⟩, ⟨vbS wst, none, 0⟩]
theorem TS.two {w X : World} (wst : Int) (hb : Below w.heap.size w X) : TS w (.slice (some ⟨X.heap.size, 0, none⟩) 2 2) (el2 wst) (X.alloc (.cells #[.int .i64 0, .int .i64 0, .int .i64 wst, .int .i64 0, .int .i64 0, .slice none 0 0, .int .i64 0, .int .i64 0, .slice none 0 0, .slice none 0 0, .int .i64 1, .int .i64 0, .int .i64 wst, .int .i64 0, .int .i64 0, .slice none 0 0, .int .i64 0, .int .i64 0, .slice none 0 0, .slice none 0 0] 27)) := by
 have hz := hb.size
 refine ⟨⟨rfl, Or.inr ⟨X.heap.size, 2, _, rfl, hz, heap_alloc_new _ _, Nat.le_refl _, by unfold maxLen; decide, rfl, rfl⟩⟩, fun e he => ?_, fun e he h0 => ?_, hb.trans (((Below.refl _ _).alloc (Nat.le_refl _) _).mono hz)⟩
 ·rcases List.mem_cons.1 he with rfl | he
  ·exact IntsAt.nil _
  ·rw [List.mem_singleton] at he; subst he; exact IntsAt.nil _
 ·rcases List.mem_cons.1 he with rfl | he
  ·exact absurd h0 (Nat.lt_irrefl 0)
  ·rw [List.mem_singleton] at he; subst he; exact absurd h0 (Nat.lt_irrefl 0)
theorem TS.older {w0 w X : World} {v : Value} {L : List El} (h : TS w v L X) (hb : Below w0.heap.size w0 w) (hL : 0 < L.length) : ∃ g cap, v = .slice (some ⟨g, 0, none⟩) L.length cap ∧ w.heap.size ≤ g := by
 obtain ⟨g, cap, h1, h2, _⟩ := h.own.form hL
 exact ⟨g, cap, h1, h2⟩
end Go.Proofs.YthgpleelpeacjaaGreatDoor
