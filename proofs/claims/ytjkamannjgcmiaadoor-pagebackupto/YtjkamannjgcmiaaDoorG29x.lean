/- Own text: the iterator over the laces of pages. the boxes of Packets, and what the laces so far have cut. pages that are dealt, plainly; the boxes of dealt. -/
import Derived.Test.YtjkamannjgcmiaaDoorG28x
import Derived.Test.YtjkamannjgcmiaaDoorR15pkt
namespace Go.Proofs.YtjkamannjgcmiaaDoor
open Go.RowKit
set_option linter.unusedSimpArgs false
set_option linter.unusedVariables false

theorem laces_app (l m : List Pg) : lacesL (l ++ m) = lacesL l ++ lacesL m := by
  induction l with
  | nil => rfl
  | cons p t ih => rw [List.cons_append, lacesL, lacesL, ih, List.append_assoc]
theorem laces_step (l : List Pg) (k : Nat) (p : Pg) (h : l[k]? = some p) : lacesL (l.take (k + 1)) = lacesL (l.take k) ++ p.la := by
  rw [List.take_add_one, h, laces_app]
  simp [lacesL]
theorem laces_pre (l : List Pg) (k : Nat) (p : Pg) (h : l[k]? = some p) (j : Nat) : lacesL (l.take k) ++ p.la.take j <+: lacesL l := by
  have e : lacesL l = lacesL (l.take (k + 1)) ++ lacesL (l.drop (k + 1)) := by rw [← laces_app, List.take_append_drop]
  rw [e, laces_step l k p h, List.append_assoc]
  refine (List.prefix_append_right_inj _).2 ?_
  exact (List.take_prefix j p.la).trans (List.prefix_append _ _)
set_option maxRecDepth 20000 in
set_option maxHeartbeats 1600000 in
theorem j_lacesOf1 (l : List Pg) (a : Option Addr) (c : Nat) (wA w0 : World) (hl : PgsAt wA a l) (hn : l.length ≤ 1000000000000) (hA : Below wA.heap.size wA w0) (g : Nat) (hb : Box w0 g #[.slice a l.length c] 22) :
    Goes Tryd.prog 53 #[.pointer (some ⟨g, 0, none⟩)] (fun x : Int => #[Value.int .i64 x]) (fun _ _ _ => True) wA.heap.size (fun xs => xs = lacesL l) (fun pre => pre <+: lacesL l) (lacesL l).length w0 := by
  intro lp J Jx W hW hJ hJx hY h0
  have HL := hid hl
  have HWA : Hid (Below wA.heap.size wA W) := hA.trans (hW.mono hA.size)
  have HJ := hid hJ
  have HY := hid hY
  have hbW := hb.keep hW
  have c0 := hbW.c 0 _ rfl
  clear hl hW hA hJ hJx hY hb hbW
  show Calls _ _ #[.func (.yield lp) #[] #[], .pointer (some ⟨g, 0, none⟩)] _ _
  refine (callsIn_wide (n := 0)).1 (callsIn_of_wp Tryd.func53 rfl trivial ?_ rfl)
  simp only [Tryd.ntmps53, List.size_toArray, List.length_cons, List.length_nil, Nat.reduceAdd, Nat.reduceSub, Array.replicate_succ, Array.replicate_zero, List.push_toArray, List.append_toArray, List.nil_append, List.cons_append]
  gi_wp2
  gi_loopw [9] (fun t wr => ∃ k : Nat, k ≤ l.length ∧ t = .int .i64 (k : Int) ∧ J (lacesL (l.take k)) wr ∧ Below wA.heap.size W wr) (fun t _ => l.length - (intOf t).toNat)
  case atStart => exact ⟨0, Nat.zero_le _, rfl, h0, Below.refl _ _⟩
  case round =>
    obtain ⟨k, hk, rfl, hj, hbr⟩ := hrel
    have HR : Hid (J (lacesL (l.take k)) wr ∧ Below wA.heap.size W wr) := ⟨hj, hbr⟩
    clear hj hbr h0
    by_cases hlt : k < l.length
    · obtain ⟨p, hpk⟩ : ∃ p, l[k]? = some p := ⟨_, List.getElem?_eq_getElem hlt⟩
      obtain ⟨b1, o1, rfl, ap, pc, hpa, q1⟩ := HL.out.at k p hpk
      have HPA := hid hpa
      have HP := hid hpk
      obtain ⟨y0, y1, y2, y3, y4⟩ := q1 wr (HWA.out.trans HR.out.2)
      clear hpa hpk q1 c0
      have hlen := HPA.out.la.len
      gi_wp2_with fail
      have H1 : Hid (J (lacesL (l.take k) ++ p.la.take 0) (wr.alloc (.cells #[.int .i64 p.fl, .int .i64 p.se, .int .i64 p.sq, .int .i64 p.gr, .slice ap p.la.length pc] 49)) ∧ Below wA.heap.size W (wr.alloc (.cells #[.int .i64 p.fl, .int .i64 p.se, .int .i64 p.sq, .int .i64 p.gr, .slice ap p.la.length pc] 49))) := ⟨by rw [List.take_zero, List.append_nil]; exact HJ.out _ _ _ HR.out.1 (below_new _ _), HR.out.2.alloc (Nat.le_trans HWA.out.size HR.out.2.size) _⟩
      generalize wr.alloc (.cells #[.int .i64 p.fl, .int .i64 p.se, .int .i64 p.sq, .int .i64 p.gr, .slice ap p.la.length pc] 49) = w1 at *
      clear y0 y1 y2 y3 y4
      gi_loopw [16] (fun t wx => ∃ j : Nat, j ≤ p.la.length ∧ t = .int .i64 (j : Int) ∧ J (lacesL (l.take k) ++ p.la.take j) wx ∧ Below wA.heap.size W wx) (fun t _ => p.la.length - (intOf t).toNat)
      case atStart => exact ⟨0, Nat.zero_le _, rfl, H1.out⟩
      case round =>
        obtain ⟨j, hj, rfl, hj2, hb2⟩ := hrel
        have H2 : Hid (J (lacesL (l.take k) ++ p.la.take j) wr ∧ Below wA.heap.size W wr) := ⟨hj2, hb2⟩
        clear hj2 hb2
        by_cases hlj : j < p.la.length
        · obtain ⟨b2, o2, rfl, hc⟩ := HPA.out.la.at j hlj
          have cx := hc wr (HWA.out.trans H2.out.2)
          have HT : Hid (lacesL (l.take k) ++ p.la.take (j + 1) = (lacesL (l.take k) ++ p.la.take j) ++ [p.la.getD j 0]) := by
            show _ = _
            rw [take_snoc _ _ hlj, List.append_assoc]
          have hy := HY.out _ (p.la.getD j 0) wr wr H2.out.1 (Below.refl _ _) trivial H2.out.2 (by
            have e := (laces_pre l k p HP.out (j + 1)).length_le
            rw [HT.out, List.length_append, List.length_singleton] at e
            omega)
          rw [← HT.out] at hy
          generalize p.la.getD j 0 = x at *
          obtain ⟨fn, tmps, assign, body, hy, hR⟩ := hy
          clear hc
          gi_wp2
          refine ⟨rfl, hR.mono ?_⟩
          rintro e W3 (⟨rfl, hJ3, hb3⟩ | ⟨rfl, hx3⟩)
          · have H3 : Hid (J (lacesL (l.take k) ++ p.la.take (j + 1)) W3 ∧ Below wA.heap.size W W3) := ⟨hJ3, H2.out.2.trans hb3⟩
            clear hJ3 hb3 hR hy cx
            gi_wp2
            go_roundw
            case rel => exact ⟨j + 1, by omega, by go_num, H3.out⟩
            case measure => simp [intOf]; omega
          · have H3 := hid hx3
            clear hx3 hR hy cx
            gi_wp2
            refine bodyPost_ret (results_none rfl _ _ _) rfl ?_
            exact ⟨⟨_, rfl⟩, Or.inr ⟨_, laces_pre l k p HP.out (j + 1), H3.out⟩⟩
        · have H3 : Hid (J (lacesL (l.take (k + 1))) wr ∧ Below wA.heap.size W wr) := by
            have := H2.out
            rw [List.take_of_length_le (l := p.la) (i := j) (by omega)] at this
            show J _ _ ∧ _
            rw [laces_step l k p HP.out]
            exact this
          clear H2
          gi_wp2
          go_roundw
          case rel => exact ⟨k + 1, by omega, by go_num, H3.out⟩
          case measure => simp [intOf]; omega
    · have H3 : Hid (J (lacesL l) wr) := by
        have := HR.out.1
        rwa [List.take_of_length_le (by omega)] at this
      gi_wp2
      go_end0
      exact ⟨⟨_, rfl⟩, Or.inl ⟨_, rfl, H3.out⟩⟩

end Go.Proofs.YtjkamannjgcmiaaDoor

namespace Go.Proofs.YtjkamannjgcmiaaDoor
open Go.RowKit
set_option linter.unusedSimpArgs false
set_option linter.unusedVariables false

set_option maxRecDepth 20000 in
set_option maxHeartbeats 1600000 in
theorem j_lacesOf (a : Option Addr) (n c : Nat) (w : World) : Calls Tryd.prog 32 #[.slice a n c] w fun e w' => e = .returned (.func (.func 53) #[] #[.pointer (some ⟨w.heap.size, 0, none⟩)]) ∧ w' = w.alloc (.cells #[.slice a n c] 22) := by
  go_enter Tryd.func32, Tryd.ntmps32
  go_wp2
  go_ret
  exact ⟨rfl, rfl⟩
theorem Ck.owns {A B : World} (h : Ck A B) {base : Nat} {e : TypeId} {size : Nat} {v : Value} {n : Nat} {xs : List Value} (ho : A.ownsRow base e size v n xs) : B.ownsRow base e size v n xs := by
  refine ⟨ho.1, ?_⟩
  rcases ho.2 with hn | ⟨g, cap, cur, hv, hb, hg, rest⟩
  · exact .inl hn
  · exact .inr ⟨g, cap, cur, hv, hb, h.cells _ _ hg rfl, rest⟩
theorem Box.otherc {w : World} {g k j : Nat} {C : Array Value} {T : TypeId} (h : Box w g C T) (hk : g ≠ k) (u : Value) : Box (w.setCell ⟨k, j, none⟩ u) g C T := ⟨(Below.heap_setCell _ _ _ _ hk).trans h.h⟩
theorem Box.setc {w : World} {g j : Nat} {C : Array Value} {T : TypeId} (h : Box w g C T) (u : Value) : Box (w.setCell ⟨g, j, none⟩ u) g (C.setIfInBounds j u) T := ⟨set15 _ _ _ _ _ _ h.h⟩
theorem owns_other {w : World} {B g j : Nat} {e : TypeId} {size : Nat} {v : Value} {n : Nat} {xs : List Value} (h : w.ownsRow B e size v n xs) (hg : g < B) (u : Value) : (w.setCell ⟨g, j, none⟩ u).ownsRow B e size v n xs := by
  refine ⟨h.1, ?_⟩
  rcases h.2 with hn | ⟨k, cap, cur, hv, hb, hk, rest⟩
  · exact .inl hn
  · exact .inr ⟨k, cap, cur, hv, hb, (Below.heap_setCell _ _ _ _ (show k ≠ g by omega)).trans hk, rest⟩
theorem owns_base {w : World} {B C : Nat} {e : TypeId} {size : Nat} {v : Value} {n : Nat} {xs : List Value} (h : w.ownsRow B e size v n xs) (hc : C ≤ B) : w.ownsRow C e size v n xs := by
  refine ⟨h.1, ?_⟩
  rcases h.2 with hn | ⟨k, cap, cur, hv, hb, rest⟩
  · exact .inl hn
  · exact .inr ⟨k, cap, cur, hv, Nat.le_trans hc hb, rest⟩
/-- The boxes of Packets. -/
structure PkS (B : Nat) (W : World) (v : Value) (out : List Nat) (n : Nat) (op : Bool) : Prop where
  b0 : Box W B #[noS] 37
  b1 : Box W (B + 1) #[.int .i64 0] 24
  b2 : Box W (B + 1 + 1) #[v] 37
  b3 : Box W (B + 1 + 1 + 1) #[.int .i64 (n : Int)] 3
  b4 : Box W (B + 1 + 1 + 1 + 1) #[.bool op] 4
  own : W.ownsRow (B + 5) 3 1 v out.length (intsC (out.map fun x : Nat => (x : Int)))
section
variable {B : Nat} {W W' : World} {v v' : Value} {out : List Nat} {n : Nat} {op : Bool}
theorem PkS.ck (h : PkS B W v out n op) (k : Ck W W') : PkS B W' v out n op := ⟨k.box h.b0, k.box h.b1, k.box h.b2, k.box h.b3, k.box h.b4, k.owns h.own⟩
theorem PkS.setn (h : PkS B W v out n op) (m : Nat) : PkS B (W.setCell ⟨B + 1 + 1 + 1, 0, none⟩ (.int .i64 (m : Int))) v out m op := ⟨h.b0.otherc (by omega) _, h.b1.otherc (by omega) _, h.b2.otherc (by omega) _, h.b3.setc _, h.b4.otherc (by omega) _, owns_other h.own (by omega) _⟩
theorem PkS.setop (h : PkS B W v out n op) (o : Bool) : PkS B (W.setCell ⟨B + 1 + 1 + 1 + 1, 0, none⟩ (.bool o)) v out n o := ⟨h.b0.otherc (by omega) _, h.b1.otherc (by omega) _, h.b2.otherc (by omega) _, h.b3.otherc (by omega) _, h.b4.setc _, owns_other h.own (by omega) _⟩
theorem PkS.blk (h : PkS B W v out n op) (k : Nat) (hk : v.ownBlock = some k) : B + 5 ≤ k := (h.own.lt k hk).1
theorem PkS.push (h : PkS B W v out n op) {x : Nat} (ho : W'.ownsRow (B + 5) 3 1 v' (out.length + 1) (intsC (out.map fun x : Nat => (x : Int)) ++ [.int .i64 (x : Int)])) (hg : W.grownBy W' v.ownBlock) :
    PkS B (W'.setCell ⟨B + 1 + 1, 0, none⟩ v') v' (out ++ [x]) n op ∧ Box W' (B + 1 + 1) #[v] 37 := by
  have q : ∀ {g : Nat} {C : Array Value} {T : TypeId}, g < B + 5 → Box W g C T → Box W' g C T := fun hlt hb => ⟨(hg.block _ hb.lt (fun e => by have := h.blk _ e.symm; omega)).trans hb.h⟩
  exact ⟨⟨(q (by omega) h.b0).otherc (by omega) _, (q (by omega) h.b1).otherc (by omega) _, (q (by omega) h.b2).setc _, (q (by omega) h.b3).otherc (by omega) _, (q (by omega) h.b4).otherc (by omega) _, by
    rw [List.length_append, List.map_append, intsC_append]
    exact owns_other ho (by omega) _⟩, q (by omega) h.b2⟩
theorem PkS.keeps (h : PkS B W v out n op) (hg : W.grownBy W' v.ownBlock) : KeepsOthers W W' := KeepsOthers.of_grownBy hg fun k o e hk => by
  rcases h.own.2 with ⟨rfl, _⟩ | ⟨g, cap, cur, rfl, _, hgb, _⟩
  · cases e
  · obtain rfl : g = k := by simpa [Value.ownBlock] using e
    rw [hgb] at hk
    cases hk
    rfl
end
/-- Behind these laces. -/
def PkG (pre : List Int) (out : List Nat) (n : Nat) (op : Bool) : Prop := ∀ rest : List Int, PI (pre ++ rest) rest out n op
theorem PkG.nil : PkG [] [] 0 false := fun rest => ⟨rfl, rfl, Iff.rfl, by simp, by simp⟩
theorem PkG.cons {pre : List Int} {out : List Nat} {n x : Nat} {op : Bool} (h : PkG pre out n op) (hx : x ≤ 255) : (x = 255 → PkG (pre ++ [(x : Int)]) out (n + x) true) ∧ (¬ x = 255 → PkG (pre ++ [(x : Int)]) (out ++ [n + x]) 0 false) := by
  have k : ∀ rest, PI ((pre ++ [(x : Int)]) ++ rest) ((x : Int) :: rest) out n op := fun rest => by
    have := h ((x : Int) :: rest)
    rwa [List.append_assoc]
  exact ⟨fun q rest => ((k rest).cons hx).1 q, fun q rest => ((k rest).cons hx).2 q⟩
theorem PkG.bad {all pre : List Int} {x : Int} (hp : pre ++ [x] <+: all) (hx : ¬ (0 ≤ x ∧ x ≤ 255)) : ¬ pktOk all := fun q => hx (q.1 x (hp.subset (by simp)))
theorem PkG.bd {pre : List Int} {out : List Nat} {n : Nat} {op : Bool} (h : PkG pre out n op) : n ≤ 255 * pre.length ∧ out.length ≤ pre.length := by
  have q := h []
  have h1 := q.bd
  have h2 := q.len
  simp at h1 h2
  exact ⟨h1, h2⟩

end Go.Proofs.YtjkamannjgcmiaaDoor

namespace Go.Proofs.YtjkamannjgcmiaaDoor
open Go.RowKit
set_option linter.unusedSimpArgs false
set_option linter.unusedVariables false

/-- Laces dealt out to pages. -/
def finD (st : List (List Int) × List Int) : List (List Int) := if st.2 = [] then st.1 else st.1 ++ [st.2]
def dlP (m : Nat) (xs : List Int) : List (List Int) := finD (xs.foldl (push1 m) ([], []))
theorem push1_pre (m : Nat) (Q A : List (List Int)) (B : List Int) (x : Int) : push1 m (Q ++ A, B) x = (Q ++ (push1 m (A, B) x).1, (push1 m (A, B) x).2) := by
  unfold push1
  by_cases h : B.length = m
  · rw [if_pos h, if_pos h, List.append_assoc]
  · rw [if_neg h, if_neg h]
theorem pushL_pre (m : Nat) : ∀ (xs : List Int) (Q A : List (List Int)) (B : List Int), xs.foldl (push1 m) (Q ++ A, B) = (Q ++ (xs.foldl (push1 m) (A, B)).1, (xs.foldl (push1 m) (A, B)).2)
  | [], _, _, _ => rfl
  | x :: t, Q, A, B => by
    rw [List.foldl_cons, push1_pre, pushL_pre m t, List.foldl_cons]
theorem push1_ne (m : Nat) (st : List (List Int) × List Int) (x : Int) : (push1 m st x).2 ≠ [] := by
  unfold push1
  split <;> simp
theorem pushL_ne (m : Nat) : ∀ (xs : List Int) (st : List (List Int) × List Int), xs ≠ [] → (xs.foldl (push1 m) st).2 ≠ []
  | [], _, h => absurd rfl h
  | [x], st, _ => push1_ne m st x
  | x :: y :: t, st, _ => pushL_ne m (y :: t) (push1 m st x) (by simp)
theorem lcs_ne (n : Nat) : lcs n ≠ [] := fun h => by have := lcs_pos n; rw [h] at this; exact absurd this (by decide)
theorem lacR_deal (m : Nat) : ∀ (t : List Nat) (Q A : List (List Int)) (B : List Int), (t = [] → B = []) → lacR m t false (Q ++ A, B) = Q ++ finD ((t.flatMap lcs).foldl (push1 m) (A, B))
  | [], Q, A, B, h => by
    obtain rfl := h rfl
    simp [lacR, finD]
  | n :: t, Q, A, B, _ => by
    have e : pushN m n (Q ++ A, B) = (Q ++ (pushN m n (A, B)).1, (pushN m n (A, B)).2) := pushL_pre m (lcs n) Q A B
    have e3 : pushN m n (A, B) = (lcs n).foldl (push1 m) (A, B) := rfl
    rw [lacR, List.flatMap_cons, List.foldl_append, ← e3]
    by_cases ht : t = []
    · subst ht
      have hne : (pushN m n (A, B)).2 ≠ [] := pushL_ne m (lcs n) _ (lcs_ne n)
      rw [if_pos (Or.inr rfl), e]
      show _ = Q ++ finD (pushN m n (A, B))
      unfold finD
      rw [if_neg hne]
      show (Q ++ (pushN m n (A, B)).1) ++ [(pushN m n (A, B)).2] = _
      rw [List.append_assoc]
    · rw [if_neg (fun h => h.elim (fun h => absurd h (by decide)) ht), e, lacR_deal m t Q _ _ (fun h => absurd h ht)]
theorem lacP_deal (m : Nat) (l : List Nat) : lacP m l = dlP m ((l.take 1).flatMap lcs) ++ dlP m ((l.drop 1).flatMap lcs) := by
  cases l with
  | nil => rfl
  | cons n t =>
    show lacR m (n :: t) true ([], []) = _
    rw [lacR, if_pos (Or.inl rfl)]
    have h := lacR_deal m t ((pushN m n ([], [])).1 ++ [(pushN m n ([], [])).2]) [] [] (fun _ => rfl)
    rw [List.append_nil] at h
    rw [h]
    have hne : (pushN m n ([], [])).2 ≠ [] := pushL_ne m (lcs n) _ (lcs_ne n)
    congr 1
    show _ = finD (([n].flatMap lcs).foldl (push1 m) ([], []))
    rw [List.flatMap_cons, List.flatMap_nil, List.append_nil]
    show _ = finD (pushN m n ([], []))
    unfold finD
    rw [if_neg hne]
theorem pushL_len (m : Nat) : ∀ (xs : List Int) (st : List (List Int) × List Int), (xs.foldl (push1 m) st).1.length ≤ st.1.length + xs.length
  | [], _ => Nat.le_refl _
  | x :: t, st => by
    have h := pushL_len m t (push1 m st x)
    have : (push1 m st x).1.length ≤ st.1.length + 1 := by
      unfold push1
      split
      · simp
      · simp
    rw [List.foldl_cons, List.length_cons]
    omega
theorem IntsAt.otherc {w : World} {ao : Option Addr} {l : List Int} (h : IntsAt w ao l) {g j : Nat} (hg : ∀ b, blockOf ao = some b → b ≠ g) (u : Value) : IntsAt (w.setCell ⟨g, j, none⟩ u) ao l := h.keep1 fun _ b hb => Below.heap_setCell _ _ _ _ (hg b hb)
/-- Rows of pages: those that are full, one that is laid; all beyond B. -/
structure DL (B : Nat) (wx : World) (Q : List LP) (v5 : Value) (P : List Int) (v6 : Value) : Prop where
  own5 : wx.ownsRow B 37 1 v5 Q.length (lcsC Q)
  own6 : wx.ownsRow B 3 1 v6 P.length (intsC P)
  lac : ∀ q ∈ Q, LsAt wx q v5 v6
  lo : ∀ q ∈ Q, ∀ b, blockOf q.2.1 = some b → B ≤ b
  ne : ∀ b, v5.ownBlock = some b → v6.ownBlock ≠ some b
  rg : ∀ x ∈ P, 0 ≤ x ∧ x ≤ 255
section
variable {B : Nat} {wx w' : World} {Q : List LP} {v5 v6 v' : Value} {P : List Int} {x : Nat} {ap : Option Addr} {cp : Nat}
theorem DL.nil (B : Nat) (w : World) : DL B w [] noS [] noS := ⟨World.ownsRow_nil _ _ _ _, World.ownsRow_nil _ _ _ _, fun q hq => by simp at hq, fun q hq => by simp at hq, fun b hb => (by cases hb), fun x hx => by simp at hx⟩
theorem LsAt.ck {q : LP} (h : LsAt wx q v5 v6) (k : Ck wx w') : LsAt w' q v5 v6 := ⟨k.ints h.la, h.le, h.no, fun b e => ⟨Nat.lt_of_lt_of_le (h.ap b e).1 k.size, (h.ap b e).2⟩⟩
theorem DL.ck (h : DL B wx Q v5 P v6) (k : Ck wx w') : DL B w' Q v5 P v6 := ⟨k.owns h.own5, k.owns h.own6, fun q hq => (h.lac q hq).ck k, h.lo, h.ne, h.rg⟩
theorem DL.setc (h : DL B wx Q v5 P v6) {g j : Nat} (hg : g < B) (u : Value) : DL B (wx.setCell ⟨g, j, none⟩ u) Q v5 P v6 := ⟨owns_other h.own5 hg u, owns_other h.own6 hg u, fun q hq => ⟨(h.lac q hq).la.otherc (fun b hb e => by have := h.lo q hq b hb; omega) u, (h.lac q hq).le, (h.lac q hq).no, fun b e => ⟨by have := ((h.lac q hq).ap b e).1; simpa [World.setCell] using this, ((h.lac q hq).ap b e).2⟩⟩, h.lo, h.ne, h.rg⟩
theorem DL.push6 (h : DL B wx Q v5 P v6) (hx : x ≤ 255) (ho : w'.ownsRow B 3 1 v' (P.length + 1) (intsC P ++ [.int .i64 (x : Int)])) (hg : wx.grownBy w' v6.ownBlock) (hv : v'.ownBlock = v6.ownBlock ∨ v'.ownBlock = some wx.heap.size) : DL B w' Q v5 (P ++ [(x : Int)]) v' := by
  have l5 : ∀ b, v5.ownBlock = some b → b < wx.heap.size := fun b hb => (h.own5.lt b hb).2
  refine ⟨own_grown h.own5 hg h.ne, by rw [List.length_append, intsC_append]; exact ho, fun q hq => (h.lac q hq).grow6 hg hv, h.lo, fun b hb => ?_, fun y hy => ?_⟩
  · rcases hv with e | e
    · rw [e]; exact h.ne b hb
    · rw [e]; intro q; injection q with q; have := l5 b hb; omega
  · rcases List.mem_append.1 hy with hy | hy
    · exact h.rg y hy
    · rw [List.mem_singleton] at hy; omega
theorem DL.push5 (h : DL B wx Q v5 P (.slice ap P.length cp)) (hP : P.length ≤ 255) (ho : w'.ownsRow B 37 1 v' (Q.length + 1) (lcsC Q ++ [.slice ap P.length cp])) (hg : wx.grownBy w' v5.ownBlock) (hv : v'.ownBlock = v5.ownBlock ∨ v'.ownBlock = some wx.heap.size) : DL B w' (Q ++ [(P, ap, cp)]) v' [] noS := by
  have hown := own_ints h.own6 (by omega) (fun x hx => by have := h.rg x hx; omega)
  obtain ⟨a2, c2, e2, g1, g2, g3⟩ := hown
  injection e2 with e3 e4 e5
  subst e3 e5
  have hbk : ∀ b, blockOf ap = some b → b < wx.heap.size ∧ v5.ownBlock ≠ some b ∧ B ≤ b := fun b hb => by
    have hob : (Value.slice ap P.length cp).ownBlock = some b := by
      cases ap with
      | none => cases hb
      | some a => injection hb with hb; rw [← hb]; rfl
    exact ⟨(h.own6.lt b hob).2, fun e => h.ne b e hob, (h.own6.lt b hob).1⟩
  refine ⟨by rw [List.length_append, lcsC_snoc]; exact ho, World.ownsRow_nil _ _ _ _, fun q hq => ?_, fun q hq b hb => ?_, fun b hb => (fun e => by cases e), fun y hy => by simp at hy⟩
  · rcases List.mem_append.1 hq with hq | hq
    · exact (h.lac q hq).grow5 hg hv
    · rw [List.mem_singleton] at hq
      subst hq
      refine ⟨g1.keep1 fun h0 b hb => hg.block b (hbk b hb).1 (fun e => (hbk b hb).2.1 e.symm), g2, g3, fun b hb => ⟨Nat.lt_of_lt_of_le (hbk b hb).1 hg.size, ?_, fun e => by cases e⟩⟩
      have hl := (hbk b hb).1
      rcases hv with e | e
      · rw [e]; exact (hbk b hb).2.1
      · rw [e]; intro q; injection q with q; omega
  · rcases List.mem_append.1 hq with hq | hq
    · exact h.lo q hq b hb
    · rw [List.mem_singleton] at hq
      subst hq
      exact (hbk b hb).2.2
end
/-- The boxes of dealt. -/
structure DB (B : Nat) (W : World) (m : Nat) (Q : List LP) (v5 : Value) (P : List Int) (v6 : Value) : Prop where
  b0 : Box W B #[.int .i64 (m : Int)] 3
  b1 : Box W (B + 1) #[v5] 45
  b2 : Box W (B + 1 + 1) #[v6] 37
  d : DL (B + 3) W Q v5 P v6
section
variable {B m : Nat} {W W' : World} {Q : List LP} {v5 v6 v' : Value} {P : List Int} {x : Nat} {ap : Option Addr} {cp : Nat}
theorem DB.ck (h : DB B W m Q v5 P v6) (k : Ck W W') : DB B W' m Q v5 P v6 := ⟨k.box h.b0, k.box h.b1, k.box h.b2, h.d.ck k⟩
theorem DB.lt (h : DB B W m Q v5 P v6) : B + 3 ≤ W.heap.size := h.b2.lt
theorem DB.blk5 (h : DB B W m Q v5 P v6) (k : Nat) (hk : v5.ownBlock = some k) : B + 3 ≤ k := (h.d.own5.lt k hk).1
theorem DB.blk6 (h : DB B W m Q v5 P v6) (k : Nat) (hk : v6.ownBlock = some k) : B + 3 ≤ k := (h.d.own6.lt k hk).1
theorem box_grown {g : Nat} {C : Array Value} {T : TypeId} {row : Option Nat} (h : Box W g C T) (hg : W.grownBy W' row) (hn : row ≠ some g) : Box W' g C T := ⟨(hg.block _ h.lt (fun e => hn e.symm)).trans h.h⟩
theorem DB.push6 (h : DB B W m Q v5 P v6) (hx : x ≤ 255) (ho : W'.ownsRow (B + 3) 3 1 v' (P.length + 1) (intsC P ++ [.int .i64 (x : Int)])) (hg : W.grownBy W' v6.ownBlock) (hv : v'.ownBlock = v6.ownBlock ∨ v'.ownBlock = some W.heap.size) : DB B (W'.setCell ⟨B + 1 + 1, 0, none⟩ v') m Q v5 (P ++ [(x : Int)]) v' ∧ Box W' (B + 1 + 1) #[v6] 37 := by
  have n : ∀ g, g < B + 3 → v6.ownBlock ≠ some g := fun g hl e => by have := h.blk6 g e; omega
  exact ⟨⟨(box_grown h.b0 hg (n _ (by omega))).otherc (by omega) _, (box_grown h.b1 hg (n _ (by omega))).otherc (by omega) _, (box_grown h.b2 hg (n _ (by omega))).setc _, (h.d.push6 hx ho hg hv).setc (by omega) _⟩, box_grown h.b2 hg (n _ (by omega))⟩
theorem DB.push5 (h : DB B W m Q v5 P (.slice ap P.length cp)) (hP : P.length ≤ 255) (ho : W'.ownsRow (B + 3) 37 1 v' (Q.length + 1) (lcsC Q ++ [.slice ap P.length cp])) (hg : W.grownBy W' v5.ownBlock) (hv : v'.ownBlock = v5.ownBlock ∨ v'.ownBlock = some W.heap.size) :
    DB B ((W'.setCell ⟨B + 1, 0, none⟩ v').setCell ⟨B + 1 + 1, 0, none⟩ noS) m (Q ++ [(P, ap, cp)]) v' [] noS ∧ Box W' (B + 1) #[v5] 45 ∧ Box (W'.setCell ⟨B + 1, 0, none⟩ v') (B + 1 + 1) #[.slice ap P.length cp] 37 ∧ DL (B + 3) (W'.setCell ⟨B + 1, 0, none⟩ v') (Q ++ [(P, ap, cp)]) v' [] noS ∧ Box (W'.setCell ⟨B + 1, 0, none⟩ v') (B + 1) #[v'] 45 := by
  have n : ∀ g, g < B + 3 → v5.ownBlock ≠ some g := fun g hl e => by have := h.blk5 g e; omega
  have b1 := box_grown h.b1 hg (n _ (by omega))
  have b2 := (box_grown h.b2 hg (n _ (by omega))).otherc (j := 0) (k := B + 1) (by omega) v'
  have d := (h.d.push5 hP ho hg hv).setc (g := B + 1) (j := 0) (by omega) v'
  exact ⟨⟨((box_grown h.b0 hg (n _ (by omega))).otherc (by omega) _).otherc (by omega) _, (b1.setc _).otherc (by omega) _, b2.setc _, d.setc (by omega) _⟩, b1, b2, d, b1.setc _⟩
theorem owns_some {w : World} {base e size : Nat} {v : Value} {n : Nat} {xs : List Value} (h : w.ownsRow base e size v n xs) (hn : 0 < n) : ∃ g cap, v = .slice (some ⟨g, 0, none⟩) n cap := by
  rcases h.2 with ⟨_, rfl⟩ | ⟨g, cap, cur, hv, _⟩
  · exact absurd hn (Nat.lt_irrefl 0)
  · exact ⟨g, cap, hv⟩
end
theorem step_append_says {P : Program} (w : World) {ops : Array Oper} {o : Oper} {a : Act} {K : Act → World → Prop} {Q : Exit → Act → World → Prop} {E : Prop} (hgd : o.guard = none) (s x : Operand) (t : TypeId)
    (ho : o.op = .call { callee := .builtin .append, args := #[s, x], argTypes := #[t, t] }) {vs vx v' : Value} {w' : World} (hs : a.eval s = vs) (hx : a.eval x = vx) (hrun : (Builtin.append_ #[t, t] o.type #[vs, vx]).run P w = .ok v' w')
    (h : K (a.put o.dst v') w') : (if Region.wanted o (yielded ops a.tmps) = true then Oper.wp P o a w K Q else E) := by
  have hw : Region.wanted o (yielded ops a.tmps) = true := by simp [Region.wanted, hgd]
  rw [if_pos hw]
  unfold Oper.wp execOp
  simp only [ho, resolve, invoke, builtin, Sem.run_bind, Sem.run_pure, Result.andThen_ok, List.map_toArray, List.map_cons, List.map_nil, hs, hx, hrun]
  exact h
section
variable {B m : Nat} {W W' : World}
theorem keeps_row {e : TypeId} {size n : Nat} {v : Value} {xs : List Value} {C : Nat} (h : W.ownsRow C e size v n xs) (hg : W.grownBy W' v.ownBlock) : KeepsOthers W W' := KeepsOthers.of_grownBy hg fun k o e hk => by
  rcases h.2 with ⟨rfl, _⟩ | ⟨g, cap, cur, rfl, _, hgb, _⟩
  · cases e
  · obtain rfl : g = k := by simpa [Value.ownBlock] using e
    rw [hgb] at hk
    cases hk
    rfl
end

end Go.Proofs.YtjkamannjgcmiaaDoor
