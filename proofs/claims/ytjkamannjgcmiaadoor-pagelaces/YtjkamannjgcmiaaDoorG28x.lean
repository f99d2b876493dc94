/- Own text: a law for a range over a function whose rounds are told what lies in memory. the iterator over the laces of packets. -/
import Derived.Test.YtjkamannjgcmiaaDoorG22x
import Derived.RangeFuncOwn
import Derived.RangeFuncCalls
import Derived.RangeFuncLeaves
import Derived.Shelf.Abstract
import Derived.Shelf.RegionOpen
import Derived.OwnWalkIn
import Derived.TacticsInMore
import Derived.LoopNIn
import Derived.LoopIn
import Derived.CallsIn
import Derived.Test.YtjkamannjgcmiaaDoorR15lace
namespace Go.Proofs.YtjkamannjgcmiaaDoor
open Go.RowKit
set_option linter.unusedSimpArgs false
set_option linter.unusedVariables false

/-- What lies in blocks of cells lies on. -/
structure Ck (W W' : World) : Prop where
  os : W'.os = W.os
  tape : W'.tape = W.tape
  output : W'.output = W.output
  size : W.heap.size ≤ W'.heap.size
  cells : ∀ (k : Nat) (o : Obj), W.heap[k]? = some o → o.isCells = true → W'.heap[k]? = some o
theorem Ck.refl (W : World) : Ck W W := ⟨rfl, rfl, rfl, Nat.le_refl _, fun _ _ h _ => h⟩
theorem Ck.trans {A B C : World} (h : Ck A B) (k : Ck B C) : Ck A C := ⟨k.os.trans h.os, k.tape.trans h.tape, k.output.trans h.output, Nat.le_trans h.size k.size, fun i o a b => k.cells i o (h.cells i o a b) b⟩
theorem lt_some {w : World} {k : Nat} {o : Obj} (h : w.heap[k]? = some o) : k < w.heap.size := (Array.getElem?_eq_some_iff.1 h).1
theorem Ck.of {A B : World} (h : Below A.heap.size A B) : Ck A B := ⟨h.os, h.tape, h.output, h.size, fun k o a _ => (h.block k (lt_some a)).trans a⟩
theorem Ck.put {W : World} {l : Nat} {o : Obj} (o' : Obj) (h : W.heap[l]? = some o) (ho : o.isCells = false) : Ck W (W.putObj l o') :=
  ⟨rfl, rfl, rfl, by simp, fun k u hk hu => by
    by_cases e : k = l
    · subst e
      rw [h] at hk
      cases hk
      rw [ho] at hu
      cases hu
    · exact (World.putObj_heap_other e).trans hk⟩
theorem Ck.cell {A B : World} (h : Ck A B) {p : Addr} {v : Value} (hc : A.cell? p = some v) : B.cell? p = some v := by
  have hlt := lt_cell hc
  have e : A.heap[p.block]? = some (A.heap[p.block]'hlt) := Array.getElem?_eq_getElem hlt
  have hi : (A.heap[p.block]'hlt).isCells = true := by
    unfold World.cell? at hc
    rw [e] at hc
    generalize A.heap[p.block]'hlt = o at hc
    cases o <;> first | rfl | (cases hc)
  have e2 := h.cells _ _ e hi
  rw [← hc]
  exact World.cell?_of_block (w := A) (e2.trans e.symm)
theorem Ck.box {A B : World} (h : Ck A B) {g : Nat} {C : Array Value} {T : TypeId} (hb : Box A g C T) : Box B g C T := ⟨h.cells _ _ hb.h rfl⟩
theorem Ck.ints {A B : World} (h : Ck A B) {ao : Option Addr} {l : List Int} (hi : IntsAt A ao l) : IntsAt B ao l := ⟨hi.len, hi.num, fun h0 => by
  obtain ⟨b, off, e, hc⟩ := hi.lies h0
  exact ⟨b, off, e, fun j hj => h.cell (hc j hj)⟩⟩
theorem Ck.pg {A B : World} (h : Ck A B) {p : Pg} {ao : Option Addr} {c : Nat} (hi : PgAt A p ao c) : PgAt B p ao c := ⟨h.ints hi.la, hi.le, hi.no⟩
theorem keeps_of {A B : World} (h : Below A.heap.size A B) : KeepsOthers A B := ⟨h.size, fun k o a _ => (h.block k (lt_some a)).trans a⟩
theorem below_put {n0 : Nat} {w W : World} {l : Nat} (h : Below n0 w W) (hl : n0 ≤ l) (o : Obj) : Below n0 w (W.putObj l o) := ⟨h.os, h.tape, h.output, by have := h.size; simpa using this, fun k hk => (World.putObj_heap_other (by omega)).trans (h.block k hk)⟩
/-- A function that is gone over: each round is asked where what it is handed lies in memory. -/
def Goes {α : Type} (P : Program) (gf : Nat) (lb : Array Value) (encs : α → Array Value) (Q : α → World → World → Prop) (n0 : Nat) (S Sp : List α → Prop) (N : Nat) (w : World) : Prop :=
  ∀ (l : Nat) (J Jx : List α → World → Prop) (W : World), Below w.heap.size w W → (∀ s A B, J s A → Below A.heap.size A B → J s B) → (∀ s A B, Jx s A → Below A.heap.size A B → Jx s B) →
    (∀ pre x W0 W1, J pre W0 → Below W0.heap.size W0 W1 → Q x W0 W1 → Below n0 W W1 → pre.length < N → YieldAt Fence.wide 0 P l (encs x) W1 fun e W' => (e = .returned (.bool true) ∧ J (pre ++ [x]) W' ∧ Below n0 W1 W') ∨ (e = .returned (.bool false) ∧ Jx (pre ++ [x]) W')) →
    J [] W → Calls P gf (#[.func (.yield l) #[] #[]] ++ lb) W fun e W' => (∃ v, e = .returned v) ∧ ((∃ xs, S xs ∧ J xs W') ∨ ∃ pre, Sp pre ∧ Jx pre W')
/-- What is asked at a round's end. -/
def roundP (n0 : Nat) (A B : World → Prop) (W W2 : World) : Exit → Act → World → Prop
  | .normal, _, W' => KeepsOthers W2 W' ∧ Below n0 W W' ∧ A W'
  | .ret, _, W' => KeepsOthers W2 W' ∧ Below n0 W W' ∧ B W'
  | _, _, _ => False
theorem range_goes {α : Type} {P : Program} {g : Operand} {ps : Array Tmp} {assign body : Code} {R : Exit → Act → World → Prop} {a : Act} {w : World} {gf : Nat} {lb : Array Value}
    (hg : a.eval g = .func (.func gf) #[] lb) (eg : ∀ args w, (callFunc gf args).run P w = .ok (.enter gf args) w)
    {encs : α → Array Value} {Q : α → World → World → Prop} {n0 : Nat} {S Sp : List α → Prop} {N : Nat} {w0 : World} (hseq : Goes P gf lb encs Q n0 S Sp N w0) (hw0 : Below w0.heap.size w0 w) (hn0 : n0 ≤ w.heap.size) (hps : ∀ x, (encs x).size = ps.size)
    (I Ix : List α → World → Prop) (hI : ∀ s A B, I s A → Ck A B → I s B) (hIx : ∀ s A B, Ix s A → Ck A B → Ix s B) (h0 : I [] w)
    (hround : ∀ (l : Nat) (pre : List α) (x : α) (W0 W : World) (K : Act → World → Prop), I pre W0 → Below W0.heap.size W0 W → Q x W0 W → Below n0 w W → pre.length < N →
      (∀ a₁ W1, Below W.heap.size W W1 → (∀ W2, Ck W1 W2 → body.wpIn (Fence.wide.inRound l) 0 P (roundP n0 (I (pre ++ [x])) (Ix (pre ++ [x])) W2 W2) a₁ W2) → K a₁ W1) →
      assign.wpIn (Fence.wide.inRound l) 0 P (Exit.then K (fun _ _ _ => False)) { tmps := (ps.zip (encs x)).foldl (fun t (p, v) => t.setIfInBounds p v) a.tmps, defers := [] } W)
    (hdone : ∀ (D : Nat) (xs : List α) (W : World), w.heap.size ≤ D → S xs → I xs W → Below n0 w W → W.heap[D]? = some (.deferred (some [])) → R .normal { a with defers := { target := .collected D, args := #[] } :: a.defers } W)
    (hstop : ∀ (D : Nat) (pre : List α) (W : World), w.heap.size ≤ D → Sp pre → Ix pre W → Below n0 w W → W.heap[D]? = some (.deferred (some [])) → Code.ret.wpIn Fence.wide 0 P R { a with defers := { target := .collected D, args := #[] } :: a.defers } W) :
    (Code.rangeFunc g ps assign body).wpIn Fence.wide 0 P R a w := by
  refine wpIn_rangeFunc fun fn hfn => ?_
  obtain ⟨rc, hrc⟩ : ∃ rc : LoopState → Option Code → Loop, rc = fun st pe => { state := st, pending := pe, fn, tmps := a.tmps, params := ps, assign, body, defers := w.heap.size } := ⟨_, rfl⟩
  have hent := run_enterLoop_outer (P := P) (w := w) fn a.tmps ps assign body
  have hrd : Obj.loop { state := .ready, pending := none, fn, tmps := a.tmps, params := ps, assign, body, defers := w.heap.size } = .loop (rc .ready none) := by rw [hrc]
  rw [hrd] at hent
  have hbx : Below w.heap.size w ((w.alloc (.deferred (some []))).alloc (.loop (rc .ready none))) := ((Below.refl _ _).alloc (Nat.le_refl _) _).alloc (by simp) _
  have hl1 : ((w.alloc (.deferred (some []))).alloc (.loop (rc .ready none))).heap[w.heap.size + 1]? = some (.loop (rc .ready none)) := by
    have := World.alloc_heap_new (w.alloc (.deferred (some []))) (.loop (rc .ready none))
    rwa [World.size_alloc] at this
  have hd1 : ((w.alloc (.deferred (some []))).alloc (.loop (rc .ready none))).heap[w.heap.size]? = some (.deferred (some [])) := heap_two _ _ _
  generalize (w.alloc (.deferred (some []))).alloc (.loop (rc .ready none)) = W1 at *
  have hb1 : Below n0 w W1 := hbx.mono hn0
  refine ⟨w.heap.size + 1, [{ target := .collected w.heap.size, args := #[] }], W1, { target := .fn (.func gf) lb, args := #[.func (.yield (w.heap.size + 1)) #[] #[]] }, W1, gf, #[.func (.yield (w.heap.size + 1)) #[] #[]] ++ lb, W1, hent, ?_, fun _ _ => trivial, ?_, (fun h => by cases h), ?_⟩
  · simp only [resolve, hg]
    simp [go_sem]
  · simp [invoke, go_sem, eg]
  · refine callsIn_wide.2 ?_
    have hend : ∀ (W : World) (st : LoopState) (pe : Option Code), st ≠ .busy → W.heap[w.heap.size + 1]? = some (.loop (rc st pe)) → (Instr.endLoop (w.heap.size + 1)).run P W = .ok pe (W.putObj (w.heap.size + 1) (.loop { rc st pe with state := .exhausted })) := fun W st pe hs hl => by
      have := run_endLoop (P := P) hl (by rw [hrc]; exact hs)
      have e : (rc st pe).pending = pe := by rw [hrc]
      exact this.trans (congrArg (fun z => Result.ok z _) e)
    refine (hseq (w.heap.size + 1) (fun s W => I s W ∧ W.heap[w.heap.size + 1]? = some (.loop (rc .ready none)) ∧ W.heap[w.heap.size]? = some (.deferred (some [])) ∧ Below n0 w W) (fun s W => Ix s W ∧ W.heap[w.heap.size + 1]? = some (.loop (rc .done (some .ret))) ∧ W.heap[w.heap.size]? = some (.deferred (some [])) ∧ Below n0 w W) W1 (hw0.trans (hbx.mono hw0.size)) ?_ ?_ ?_ ⟨hI _ _ _ h0 (Ck.of hbx), hl1, hd1, hb1⟩).mono ?_
    · rintro s A B ⟨h1, h2, h3, h4⟩ hb
      exact ⟨hI _ _ _ h1 (Ck.of hb), (hb.block _ (lt_some h2)).trans h2, (hb.block _ (lt_some h3)).trans h3, below_on h4 (Nat.le_trans hn0 (Nat.le_of_lt (lt_some h3))) hb⟩
    · rintro s A B ⟨h1, h2, h3, h4⟩ hb
      exact ⟨hIx _ _ _ h1 (Ck.of hb), (hb.block _ (lt_some h2)).trans h2, (hb.block _ (lt_some h3)).trans h3, below_on h4 (Nat.le_trans hn0 (Nat.le_of_lt (lt_some h3))) hb⟩
    · rintro pre x W0 W ⟨h1, h2, h3, h4⟩ hbb hq hbw hN
      have hsz : n0 ≤ W0.heap.size := Nat.le_trans hn0 (Nat.le_of_lt (lt_some h3))
      replace h2 := (hbb.block _ (lt_some h2)).trans h2
      replace h3 := (hbb.block _ (lt_some h3)).trans h3
      replace h4 := below_on h4 hsz hbb
      have hy := run_yield (P := P) (args := encs x) h2 (by rw [hrc]; exact hps x)
      rw [hrc] at hy
      refine ⟨fn, _, assign, body, hy, roundIn_of_wpIn trivial (hround _ pre x W0 W _ h1 hbb hq h4 hN fun a₁ V1 hv1 hbody => ?_)⟩
      have g2 : V1.heap[w.heap.size + 1]? = some (.loop (rc .ready none)) := (hv1.block _ (lt_some h2)).trans h2
      have g3 : V1.heap[w.heap.size]? = some (.deferred (some [])) := (hv1.block _ (lt_some h3)).trans h3
      have c2 : Ck V1 (V1.putObj (w.heap.size + 1) (.loop { rc .ready none with state := .busy })) := Ck.put _ g2 rfl
      refine ⟨_, run_beginRound g2 (by rw [hrc]), wpIn_mono (hbody _ c2) ?_⟩
      have k2 : (V1.putObj (w.heap.size + 1) (.loop { rc .ready none with state := .busy })).heap[w.heap.size + 1]? = some (.loop { rc .ready none with state := .busy }) := World.putObj_heap_same (lt_some g2)
      have k3 : (V1.putObj (w.heap.size + 1) (.loop { rc .ready none with state := .busy })).heap[w.heap.size]? = some (.deferred (some [])) := (World.putObj_heap_other (by omega)).trans g3
      have kb : Below n0 W (V1.putObj (w.heap.size + 1) (.loop { rc .ready none with state := .busy })) := below_put (hv1.mono (Nat.le_trans hn0 (Nat.le_of_lt (lt_some h3)))) (by omega) _
      generalize V1.putObj (w.heap.size + 1) (.loop { rc .ready none with state := .busy }) = V2 at *
      have fin : ∀ (j : Option Code) (V3 : World), KeepsOthers V2 V3 → V3.heap[w.heap.size + 1]? = some (.loop { rc .ready none with state := .busy }) ∧ V3.heap[w.heap.size]? = some (.deferred (some [])) ∧ (Instr.endRound (w.heap.size + 1) j).run P V3 = .ok (.bool j.isNone) (V3.putObj (w.heap.size + 1) (.loop (rc (if j.isNone then .ready else .done) j))) := fun j V3 hk => by
        have m2 := hk.same _ _ k2 rfl
        have := run_endRound (P := P) j m2
        exact ⟨m2, hk.same _ _ k3 rfl, by rw [hrc] at this ⊢; exact this⟩
      rintro e a3 V3 hp
      cases e with
      | normal =>
        obtain ⟨hk, hb, hi⟩ := hp
        obtain ⟨m2, m3, hr⟩ := fin none V3 hk
        have hb3 : Below n0 W (V3.putObj (w.heap.size + 1) (.loop (rc .ready none))) := below_put (kb.trans hb) (by omega) _
        exact ⟨_, _, hr, .inl ⟨rfl, ⟨hI _ _ _ hi (Ck.put _ m2 rfl), World.putObj_heap_same (lt_some m2), (World.putObj_heap_other (by omega)).trans m3, h4.trans hb3⟩, hb3⟩⟩
      | ret =>
        obtain ⟨hk, hb, hi⟩ := hp
        obtain ⟨m2, m3, hr⟩ := fin (some .ret) V3 hk
        have hb3 : Below n0 W (V3.putObj (w.heap.size + 1) (.loop (rc .done (some .ret)))) := below_put (kb.trans hb) (by omega) _
        exact ⟨_, _, hr, .inr ⟨rfl, hIx _ _ _ hi (Ck.put _ m2 rfl), World.putObj_heap_same (lt_some m2), (World.putObj_heap_other (by omega)).trans m3, h4.trans hb3⟩⟩
      | exit id => exact hp.elim
      | goto t => exact hp.elim
      | panic ch => exact hp.elim
      | outgrown => exact hp.elim
    · rintro e W2 ⟨⟨v, rfl⟩, ⟨xs, hS, h1, h2, h3, h4⟩ | ⟨pre, hSp, h1, h2, h3, h4⟩⟩
      · exact ⟨none, _, hend W2 _ _ (by decide) h2, hdone _ xs _ (Nat.le_refl _) hS (hI _ _ _ h1 (Ck.put _ h2 rfl)) (below_put h4 (by omega) _) ((World.putObj_heap_other (by omega)).trans h3)⟩
      · exact ⟨some .ret, _, hend W2 _ _ (by decide) h2, hstop _ pre _ (Nat.le_refl _) hSp (hIx _ _ _ h1 (Ck.put _ h2 rfl)) (below_put h4 (by omega) _) ((World.putObj_heap_other (by omega)).trans h3)⟩

end Go.Proofs.YtjkamannjgcmiaaDoor

namespace Go.Proofs.YtjkamannjgcmiaaDoor
open Go.RowKit
set_option linter.unusedSimpArgs false
set_option linter.unusedVariables false

/-- The laces of packets that are so long. -/
def lfL (l : List Int) : List Int := (szN l).flatMap lcs
theorem lfL_app (a b : List Int) : lfL (a ++ b) = lfL a ++ lfL b := by unfold lfL szN; rw [List.map_append, List.flatMap_append]
theorem lfL_step (l : List Int) (k : Nat) (h : k < l.length) : lfL (l.take (k + 1)) = lfL (l.take k) ++ lcs (l.getD k 0).toNat := by
  rw [take_snoc l k h, lfL_app]
  simp [lfL, szN]
theorem lfL_rest (l : List Int) (k : Nat) (h : k < l.length) : lfL l = lfL (l.take k) ++ (lcs (l.getD k 0).toNat ++ lfL (l.drop (k + 1))) := by
  conv => lhs; rw [← List.take_append_drop (k + 1) l]
  rw [lfL_app, lfL_step l k h, List.append_assoc]
theorem lcs_pre (n j : Nat) (h : 255 * j ≤ n) : lcs n = List.replicate j 255 ++ lcs (n - 255 * j) := by
  induction j with
  | zero => simp
  | succ j ih =>
    rw [ih (by omega), lcs_great (n - 255 * j) (by omega), List.replicate_succ', List.append_assoc, show n - 255 * j - 255 = n - 255 * (j + 1) by omega]
    rfl
set_option maxRecDepth 20000 in
set_option maxHeartbeats 1600000 in
theorem j_lacesFor1 (l : List Int) (a : Option Addr) (c : Nat) (wA w0 : World) (hl : IntsAt wA a l) (hA : Below wA.heap.size wA w0) (g : Nat) (hb : Box w0 g #[.slice a l.length c] 37) :
    Goes Tryd.prog 70 #[.pointer (some ⟨g, 0, none⟩)] (fun x : Int => #[Value.int .i64 x]) (fun x _ _ => 0 ≤ x ∧ x ≤ 255) wA.heap.size (fun xs => xs = lfL l) (fun pre => pre <+: lfL l) (lfL l).length w0 := by
  intro lp J Jx W hW hJ hJx hY h0
  have HL := hid hl
  have hlen := hl.len
  have HWA : Hid (Below wA.heap.size wA W) := hA.trans (hW.mono hA.size)
  have HJ := hid hJ
  have HY := hid hY
  have hbW := hb.keep hW
  have c0 := hbW.c 0 _ rfl
  clear hl hW hA hJ hJx hY hb hbW
  show Calls _ _ #[.func (.yield lp) #[] #[], .pointer (some ⟨g, 0, none⟩)] _ _
  refine (callsIn_wide (n := 0)).1 (callsIn_of_wp Tryd.func70 rfl trivial ?_ rfl)
  simp only [Tryd.ntmps70, List.size_toArray, List.length_cons, List.length_nil, Nat.reduceAdd, Nat.reduceSub, Array.replicate_succ, Array.replicate_zero, List.push_toArray, List.append_toArray, List.nil_append, List.cons_append]
  gi_wp2
  gi_loopw [8] (fun t wr => ∃ k : Nat, k ≤ l.length ∧ t = .int .i64 (k : Int) ∧ J (lfL (l.take k)) wr ∧ Below wA.heap.size W wr) (fun t _ => l.length - (intOf t).toNat)
  case atStart => exact ⟨0, Nat.zero_le _, rfl, h0, Below.refl _ _⟩
  case round =>
    obtain ⟨k, hk, rfl, hj, hbr⟩ := hrel
    have HR : Hid (J (lfL (l.take k)) wr ∧ Below wA.heap.size W wr) := ⟨hj, hbr⟩
    clear hj hbr h0
    by_cases hlt : k < l.length
    · obtain ⟨b1, o1, rfl, q1⟩ := HL.out.at k hlt
      have y1 := q1 wr (HWA.out.trans HR.out.2)
      have HP := hid (lfL_rest l k hlt)
      have HT := hid (lfL_step l k hlt)
      have hrg := HL.out.rng k
      generalize l.getD k 0 = x at *
      obtain ⟨n, hn⟩ : ∃ n, n = x.toNat := ⟨_, rfl⟩
      rw [← hn] at HP HT
      have hmx : (if x < 0 then (0 : Int) else x) = (n : Int) := by split <;> omega
      have hmx2 : max x 0 = (n : Int) := by omega
      have hnb : n ≤ 9223372036854775807 := by omega
      clear q1 c0 hn
      gi_wp2_with fail
      gi_loopw [5] (fun t wx => ∃ j r : Nat, 255 * j + r = n ∧ t = .int .i64 (r : Int) ∧ J (lfL (l.take k) ++ List.replicate j 255) wx ∧ Below wA.heap.size W wx) (fun t _ => (intOf t).toNat)
      case atStart => exact ⟨0, n, by omega, rfl, by rw [List.replicate_zero, List.append_nil]; exact HR.out.1, HR.out.2⟩
      case round =>
        obtain ⟨j, r, hjr, rfl, hj2, hb2⟩ := hrel
        have H2 : Hid (J (lfL (l.take k) ++ List.replicate j 255) wr ∧ Below wA.heap.size W wr) := ⟨hj2, hb2⟩
        have HL2 : Hid (lcs n = List.replicate j 255 ++ lcs r) := by
          show _ = _
          rw [lcs_pre n j (by omega), show n - 255 * j = r by omega]
        clear hj2 hb2
        by_cases hr : 255 ≤ r
        · have HE : Hid (lfL (l.take k) ++ List.replicate (j + 1) 255 = (lfL (l.take k) ++ List.replicate j 255) ++ [255]) := by
            show _ = _
            rw [List.replicate_succ', List.append_assoc]
          have HPR : Hid (lfL (l.take k) ++ List.replicate (j + 1) 255 <+: lfL l) := by
            show _ <+: _
            rw [HP.out, HL2.out, lcs_great r hr, HE.out, List.append_assoc, List.append_assoc]
            refine (List.prefix_append_right_inj _).2 ((List.prefix_append_right_inj _).2 ?_)
            exact ⟨lcs (r - 255) ++ lfL (l.drop (k + 1)), rfl⟩
          have hy := HY.out _ 255 wr wr H2.out.1 (Below.refl _ _) ⟨by decide, by decide⟩ H2.out.2 (by
            have e := HPR.out.length_le
            rw [HE.out, List.length_append, List.length_singleton] at e
            omega)
          rw [← HE.out] at hy
          obtain ⟨fn, tmps, assign, body, hy, hR⟩ := hy
          gi_wp2
          refine ⟨rfl, hR.mono ?_⟩
          rintro e W3 (⟨rfl, hJ3, hb3⟩ | ⟨rfl, hx3⟩)
          · have H3 : Hid (J (lfL (l.take k) ++ List.replicate (j + 1) 255) W3 ∧ Below wA.heap.size W W3) := ⟨hJ3, H2.out.2.trans hb3⟩
            clear hJ3 hb3 hR hy
            gi_wp2
            go_roundw
            case rel => exact ⟨j + 1, r - 255, by omega, by go_num, H3.out⟩
            case measure => simp [intOf]; omega
          · have H3 := hid hx3
            clear hx3 hR hy
            gi_wp2
            refine bodyPost_ret (results_none rfl _ _ _) rfl ?_
            exact ⟨⟨_, rfl⟩, Or.inr ⟨_, HPR.out, H3.out⟩⟩
        · have hrl : r < 255 := by omega
          have HE : Hid (lfL (l.take (k + 1)) = (lfL (l.take k) ++ List.replicate j 255) ++ [(r : Int)]) := by
            show _ = _
            rw [HT.out, HL2.out, lcs_small r hrl, List.append_assoc]
          have HPR : Hid (lfL (l.take (k + 1)) <+: lfL l) := by
            show _ <+: _
            rw [HP.out, HT.out]
            exact (List.prefix_append_right_inj _).2 (List.prefix_append _ _)
          have hy := HY.out _ (r : Int) wr wr H2.out.1 (Below.refl _ _) ⟨by omega, by omega⟩ H2.out.2 (by
            have e := HPR.out.length_le
            rw [HE.out, List.length_append, List.length_singleton] at e
            omega)
          rw [← HE.out] at hy
          obtain ⟨fn, tmps, assign, body, hy, hR⟩ := hy
          clear hr
          gi_wp2
          refine ⟨rfl, hR.mono ?_⟩
          rintro e W3 (⟨rfl, hJ3, hb3⟩ | ⟨rfl, hx3⟩)
          · have H3 : Hid (J (lfL (l.take (k + 1))) W3 ∧ Below wA.heap.size W W3) := ⟨hJ3, H2.out.2.trans hb3⟩
            clear hJ3 hb3 hR hy
            gi_wp2
            go_roundw
            case rel => exact ⟨k + 1, by omega, by go_num, H3.out⟩
            case measure => simp [intOf]; omega
          · have H3 := hid hx3
            clear hx3 hR hy
            gi_wp2
            refine bodyPost_ret (results_none rfl _ _ _) rfl ?_
            exact ⟨⟨_, rfl⟩, Or.inr ⟨_, HPR.out, H3.out⟩⟩
    · have H3 : Hid (J (lfL l) wr) := by
        have := HR.out.1
        rwa [List.take_of_length_le (by omega)] at this
      gi_wp2
      go_end0
      exact ⟨⟨_, rfl⟩, Or.inl ⟨_, rfl, H3.out⟩⟩
set_option maxRecDepth 20000 in
set_option maxHeartbeats 1600000 in
theorem j_lacesFor (a : Option Addr) (n c : Nat) (w : World) : Calls Tryd.prog 54 #[.slice a n c] w fun e w' => e = .returned (.func (.func 70) #[] #[.pointer (some ⟨w.heap.size, 0, none⟩)]) ∧ w' = w.alloc (.cells #[.slice a n c] 37) := by
  go_enter Tryd.func54, Tryd.ntmps54
  go_wp2
  go_ret
  exact ⟨rfl, rfl⟩

end Go.Proofs.YtjkamannjgcmiaaDoor
