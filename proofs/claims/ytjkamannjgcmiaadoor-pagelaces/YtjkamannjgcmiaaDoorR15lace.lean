/- Own text: the walk of the document's Lace. -/
import Derived.Test.YtjkamannjgcmiaaDoorP15lace
import Derived.Test.YtjkamannjgcmiaaDoorR15prsl
namespace Go.Proofs.YtjkamannjgcmiaaDoor
open Go.RowKit
set_option linter.unusedSimpArgs false
set_option linter.unusedVariables false

theorem infoR : (Tryd.prog.info? 37).map (fun i => (i.zero, i.size, i.bytes)) = some (some (.slice none 0 0), 1, 24) := by kernel_rfl
/-- A page's laces and where they lie. -/
abbrev LP := List Int × Option Addr × Nat
def lcsC (Q : List LP) : List Value := Q.map fun q => .slice q.2.1 q.1.length q.2.2
theorem lcsC_snoc (Q : List LP) (q : LP) : lcsC (Q ++ [q]) = lcsC Q ++ [.slice q.2.1 q.1.length q.2.2] := by simp [lcsC]
structure LsAt (wx : World) (q : LP) (v5 v6 : Value) : Prop where
  la : IntsAt wx q.2.1 q.1
  le : q.1.length ≤ q.2.2
  no : q.2.1 = none → q.2.2 = 0
  ap : ∀ b, blockOf q.2.1 = some b → b < wx.heap.size ∧ v5.ownBlock ≠ some b ∧ v6.ownBlock ≠ some b
section
variable {wx w' : World} {q : LP} {v5 v6 v : Value}
theorem LsAt.low (h : LsAt wx q v5 v6) (hb : Below wx.heap.size wx w') : LsAt w' q v5 v6 := ⟨h.la.below hb, h.le, h.no, fun b e => ⟨Nat.lt_of_lt_of_le (h.ap b e).1 hb.size, (h.ap b e).2⟩⟩
theorem LsAt.grow6 (h : LsAt wx q v5 v6) (hg : wx.grownBy w' v6.ownBlock) (hv : v.ownBlock = v6.ownBlock ∨ v.ownBlock = some wx.heap.size) : LsAt w' q v5 v := by
  refine ⟨h.la.keep1 fun h0 b hb => hg.block b (h.ap b hb).1 (fun e => (h.ap b hb).2.2 e.symm), h.le, h.no, fun b hb => ⟨Nat.lt_of_lt_of_le (h.ap b hb).1 hg.size, (h.ap b hb).2.1, ?_⟩⟩
  have hl := (h.ap b hb).1
  rcases hv with e | e
  · rw [e]; exact (h.ap b hb).2.2
  · rw [e]; intro q; injection q with q; omega
theorem LsAt.grow5 (h : LsAt wx q v5 v6) (hg : wx.grownBy w' v5.ownBlock) (hv : v.ownBlock = v5.ownBlock ∨ v.ownBlock = some wx.heap.size) : LsAt w' q v noS := by
  refine ⟨h.la.keep1 fun h0 b hb => hg.block b (h.ap b hb).1 (fun e => (h.ap b hb).2.1 e.symm), h.le, h.no, fun b hb => ⟨Nat.lt_of_lt_of_le (h.ap b hb).1 hg.size, ?_, fun e => by cases e⟩⟩
  have hl := (h.ap b hb).1
  rcases hv with e | e
  · rw [e]; exact (h.ap b hb).2.1
  · rw [e]; intro q; injection q with q; omega
end
/-- Lace's rows: pages that are full, and one that is laid. -/
structure LS (w0 wx : World) (Q : List LP) (v5 : Value) (P : List Int) (v6 : Value) : Prop where
  own5 : wx.ownsRow w0.heap.size 37 1 v5 Q.length (lcsC Q)
  own6 : wx.ownsRow w0.heap.size 3 1 v6 P.length (intsC P)
  lac : ∀ q ∈ Q, LsAt wx q v5 v6
  ne : ∀ b, v5.ownBlock = some b → v6.ownBlock ≠ some b
  rg : ∀ x ∈ P, 0 ≤ x ∧ x ≤ 255
  bl : Below w0.heap.size w0 wx
section
variable {w0 wx w' : World} {Q : List LP} {v5 v6 v' : Value} {P : List Int} {x : Nat} {ap : Option Addr} {cp : Nat}
theorem LS.nil (w0 : World) : LS w0 w0 [] noS [] noS := ⟨World.ownsRow_nil _ _ _ _, World.ownsRow_nil _ _ _ _, fun q hq => by simp at hq, fun b hb => (by cases hb), fun x hx => by simp at hx, Below.refl _ _⟩
theorem LS.low (h : LS w0 wx Q v5 P v6) (hb : Below wx.heap.size wx w') : LS w0 w' Q v5 P v6 := ⟨owns_below h.own5 hb, owns_below h.own6 hb, fun q hq => (h.lac q hq).low hb, h.ne, h.rg, h.bl.trans (hb.mono h.bl.size)⟩
theorem LS.push6 (h : LS w0 wx Q v5 P v6) (hx : x ≤ 255) (ho : w'.ownsRow w0.heap.size 3 1 v' (P.length + 1) (intsC P ++ [.int .i64 (x : Int)])) (hg : wx.grownBy w' v6.ownBlock) (hv : v'.ownBlock = v6.ownBlock ∨ v'.ownBlock = some wx.heap.size) : LS w0 w' Q v5 (P ++ [(x : Int)]) v' := by
  have l5 : ∀ b, v5.ownBlock = some b → b < wx.heap.size := fun b hb => (h.own5.lt b hb).2
  refine ⟨own_grown h.own5 hg h.ne, by rw [List.length_append, intsC_append]; exact ho, fun q hq => (h.lac q hq).grow6 hg hv, fun b hb => ?_, fun y hy => ?_, grown_to hg h.bl h.bl.size (fun k e => (h.own6.lt k e).1)⟩
  · rcases hv with e | e
    · rw [e]; exact h.ne b hb
    · rw [e]; intro q; injection q with q; have := l5 b hb; omega
  · rcases List.mem_append.1 hy with hy | hy
    · exact h.rg y hy
    · rw [List.mem_singleton] at hy; omega
/-- The page that was laid is a full one; the next one is begun. -/
theorem LS.push5 (h : LS w0 wx Q v5 P (.slice ap P.length cp)) (hP : P.length ≤ 255) (ho : w'.ownsRow w0.heap.size 37 1 v' (Q.length + 1) (lcsC Q ++ [.slice ap P.length cp])) (hg : wx.grownBy w' v5.ownBlock) (hv : v'.ownBlock = v5.ownBlock ∨ v'.ownBlock = some wx.heap.size) : LS w0 w' (Q ++ [(P, ap, cp)]) v' [] noS := by
  have hown := own_ints h.own6 (by omega) (fun x hx => by have := h.rg x hx; omega)
  obtain ⟨a2, c2, e2, g1, g2, g3⟩ := hown
  injection e2 with e3 e4 e5
  subst e3 e5
  have hpl : LsAt wx (P, ap, cp) v5 (.slice ap P.length cp) ∨ True := .inr trivial
  refine ⟨by rw [List.length_append, lcsC_snoc]; exact ho, World.ownsRow_nil _ _ _ _, fun q hq => ?_, fun b hb => (fun e => by cases e), fun y hy => by simp at hy, grown_to hg h.bl h.bl.size (fun k e => (h.own5.lt k e).1)⟩
  rcases List.mem_append.1 hq with hq | hq
  · exact (h.lac q hq).grow5 hg hv
  · rw [List.mem_singleton] at hq
    subst hq
    have hbk : ∀ b, blockOf ap = some b → b < wx.heap.size ∧ v5.ownBlock ≠ some b := fun b hb => by
      have hob : (Value.slice ap P.length cp).ownBlock = some b := by
        cases ap with
        | none => cases hb
        | some a => injection hb with hb; rw [← hb]; rfl
      exact ⟨(h.own6.lt b hob).2, fun e => h.ne b e hob⟩
    refine ⟨g1.keep1 fun h0 b hb => hg.block b (hbk b hb).1 (fun e => (hbk b hb).2 e.symm), g2, g3, fun b hb => ⟨Nat.lt_of_lt_of_le (hbk b hb).1 hg.size, ?_, fun e => by cases e⟩⟩
    have hl := (hbk b hb).1
    rcases hv with e | e
    · rw [e]; exact (hbk b hb).2
    · rw [e]; intro q; injection q with q; omega
theorem LS.rows (h : LS w0 wx Q v5 P v6) (hQ : Q.length ≤ 100000) : ∃ ao cap, v5 = .slice ao Q.length cap ∧ RowsAt wx ao (Q.map Prod.fst) ∧ Q.length ≤ cap ∧ (ao = none → cap = 0) := by
  obtain ⟨ao, cap, e, _, hle, hno, hat⟩ := owns_shape h.own5
  refine ⟨ao, cap, e, ⟨by rw [List.length_map]; omega, fun h0 => ?_⟩, hle, fun q => (hno q).2⟩
  rw [List.length_map] at h0
  cases ao with
  | none => have := (hno rfl).1; omega
  | some a =>
    obtain ⟨ea, _, _⟩ := hat a rfl
    have ho := h.own5
    rw [e, ea] at ho
    refine ⟨a.block, 0, by rw [ea], fun i hi => ?_⟩
    rw [List.length_map] at hi
    have hq : Q[i]? = some Q[i] := List.getElem?_eq_getElem hi
    have hg : (Q.map Prod.fst).getD i [] = Q[i].1 := by rw [List.getD_eq_getElem?_getD, List.getElem?_map, hq]; rfl
    have hl := h.lac _ (List.mem_of_getElem? hq)
    refine ⟨Q[i].2.1, Q[i].2.2, ?_, by rw [hg]; exact hl.le, hl.no, by rw [hg]; exact hl.la⟩
    rw [hg, Nat.zero_add, ho.cellAt i (by omega)]
    unfold lcsC
    rw [List.getElem?_map, hq]
    rfl
end
/-- The sizes as Lace takes them. -/
def szN (l : List Int) : List Nat := l.map Int.toNat
theorem lacR_cons (m n : Nat) (t : List Nat) (f : Bool) (st : List (List Int) × List Int) : lacR m (n :: t) f st = lacR m t false (if f = true ∨ t = [] then ((pushN m n st).1 ++ [(pushN m n st).2], []) else pushN m n st) := rfl
def mostN (k : Int) : Nat := if k < 1 then 1 else if 255 < k then 255 else k.toNat
theorem mostN_b (k : Int) : 1 ≤ mostN k ∧ mostN k ≤ 255 := by
  unfold mostN
  split
  · omega
  · split
    · omega
    · omega
theorem most_eq (k : Int) : (if (1 : Int) ≤ (if k ≤ 255 then k else 255) then (if k ≤ 255 then k else 255) else 1) = (mostN k : Int) := by
  unfold mostN
  split <;> split <;> split <;> (try split) <;> omega
set_option maxRecDepth 20000 in
set_option maxHeartbeats 3200000 in
theorem xlace_any (l : List Int) (a : Option Addr) (c : Nat) (mo : Int) (w : World) (hl : IntsAt w a l) (hn : l.length ≤ 60) (hz : ∀ x ∈ l, x ≤ 70000) :
    Calls Tryd.prog 20 #[.slice a l.length c, .int .i64 mo] w fun e w' => (∃ ao cap, e = .returned (.slice ao (lacP (mostN mo) (szN l)).length cap) ∧ RowsAt w' ao (lacP (mostN mo) (szN l)) ∧ (lacP (mostN mo) (szN l)).length ≤ cap ∧ (ao = none → cap = 0)) ∧ Below w.heap.size w w' := by
  have HL := hid hl
  have HZ := hid hz
  have HS0 := hid (LS.nil w)
  obtain ⟨iI, hI0, hI1, hI2, hI3⟩ := info_parts5 info3
  have HII : Hid (Tryd.prog.info? 3 = some iI ∧ iI.zero = some (.int .i64 0) ∧ iI.size = 1 ∧ iI.bytes = 8) := ⟨hI0, hI1, hI2, hI3⟩
  obtain ⟨iR, hR0, hR1, hR2, hR3⟩ := info_parts5 infoR
  have HIR : Hid (Tryd.prog.info? 37 = some iR ∧ iR.zero = some (.slice none 0 0) ∧ iR.size = 1 ∧ iR.bytes = 24) := ⟨hR0, hR1, hR2, hR3⟩
  obtain ⟨m, hm⟩ : ∃ m, m = mostN mo := ⟨_, rfl⟩
  have hmb := mostN_b mo
  rw [← hm] at hmb ⊢
  have HLR0 : Hid (lacP m (szN l) = lacR m ((szN l).drop 0) (decide ((0 : Nat) = 0)) ((([] : List LP).map Prod.fst), [])) := rfl
  have HM := hid hm
  clear hl hz hI0 hI1 hI2 hI3 hR0 hR1 hR2 hR3 hm
  go_enter Tryd.func20, Tryd.ntmps20
  go_upto_region 1 with fail
  go_cut [1] from 9 to 11 (fun s1 wx => s1 = .int .i64 (m : Int) ∧ wx = w)
  case first =>
    by_cases h1 : mo < 1
    · have HE : Hid ((m : Int) = 1) := by show _ = _; rw [HM.out]; unfold mostN; rw [if_pos h1]; rfl
      have h2 : mo ≤ 255 := by omega
      go_wp2_with fail
      all_goals go_meet
      all_goals exact ⟨by have := HE.out; congr 1; omega, rfl⟩
    · by_cases h2 : 255 < mo
      · have HE : Hid ((m : Int) = 255) := by show _ = _; rw [HM.out]; unfold mostN; rw [if_neg h1, if_pos h2]; rfl
        go_wp2_with fail
        all_goals go_meet
        all_goals exact ⟨by have := HE.out; congr 1; omega, rfl⟩
      · have HE : Hid ((m : Int) = mo) := by show _ = _; rw [HM.out]; unfold mostN; rw [if_neg h1, if_neg h2]; omega
        have h3 : 1 ≤ mo := by omega
        have h4 : mo ≤ 255 := by omega
        go_wp2_with fail
        all_goals go_meet
        all_goals exact ⟨by have := HE.out; congr 1; omega, rfl⟩
  case rest =>
    obtain ⟨rfl, hw⟩ := hcut
    subst hw
    rename World => W0
    go_wp2_with fail
    go_loopw [5, 6, 7] (fun s5 s6 s7 wr => ∃ (i : Nat) (Q : List LP) (P : List Int), i ≤ l.length ∧ s7 = .int .i64 (i : Int) ∧ LS W0 wr Q s5 P s6 ∧ lacP m (szN l) = lacR m ((szN l).drop i) (decide (i = 0)) (Q.map Prod.fst, P) ∧ P.length ≤ m ∧ Q.length ≤ 280 * i) (fun _ _ s7 _ => l.length - (intOf s7).toNat)
    case atStart => exact ⟨0, [], [], Nat.zero_le _, rfl, HS0.out, HLR0.out, Nat.zero_le _, Nat.zero_le _⟩
    case round =>
      clear HS0 HLR0
      obtain ⟨i, Q0, P0, hi, rfl, hs, hlr, hpm, hql⟩ := hrel
      obtain ⟨ao, co, ev⟩ := owns_sl hs.own5
      subst ev
      obtain ⟨ap, cp, ev⟩ := owns_sl hs.own6
      subst ev
      have HS := hid hs
      have HLR := hid hlr
      clear hs hlr
      by_cases hlt : i < l.length
      · obtain ⟨b1, o1, rfl, q1⟩ := HL.out.at i hlt
        have r1 := q1 wr HS.out.bl
        have hzx := HZ.out _ (getD_mem l i hlt)
        obtain ⟨n0, hn0⟩ : ∃ n0, n0 = (l.getD i 0).toNat := ⟨_, rfl⟩
        have hn7 : n0 ≤ 70000 := by omega
        have HN0 : Hid ((szN l).drop i = n0 :: (szN l).drop (i + 1)) := by
          show _ = _
          rw [List.drop_eq_getElem_cons (by unfold szN; rw [List.length_map]; exact hlt), hn0, List.getD_eq_getElem?_getD, List.getElem?_eq_getElem hlt]
          congr 1
          unfold szN
          rw [List.getElem_map]
          rfl
        have HNI := hid hn0
        have HST : Hid (lacP m (szN l) = lacR m ((szN l).drop (i + 1)) false (if i = 0 ∨ i + 1 = l.length then ((pushN m n0 (Q0.map Prod.fst, P0)).1 ++ [(pushN m n0 (Q0.map Prod.fst, P0)).2], []) else pushN m n0 (Q0.map Prod.fst, P0))) := by
          show _ = _
          rw [HLR.out, HN0.out, lacR_cons]
          congr 1
          have e : (decide (i = 0) = true ∨ (szN l).drop (i + 1) = []) ↔ (i = 0 ∨ i + 1 = l.length) := by
            rw [decide_eq_true_iff, List.drop_eq_nil_iff]
            unfold szN
            rw [List.length_map]
            omega
          by_cases q : i = 0 ∨ i + 1 = l.length
          · rw [if_pos q, if_pos (e.2 q)]
          · rw [if_neg q, if_neg (fun h => q (e.1 h))]
        clear HLR HN0 q1
        generalize l.getD i 0 = x0 at *
        go_upto_region 7 with fail
        go_cut [8] from 18 to 22 (fun s8 wx => s8 = .int .i64 (n0 : Int) ∧ wx = wr)
        case first =>
          by_cases hx0 : x0 < 0
          · have HE : Hid ((n0 : Int) = 0) := by show _ = _; rw [HNI.out]; omega
            go_wp2_with fail
            all_goals go_meet
            all_goals exact ⟨by have := HE.out; congr 1; omega, rfl⟩
          · have hx1 : 0 ≤ x0 := by omega
            have HE : Hid ((n0 : Int) = x0) := by show _ = _; rw [HNI.out]; omega
            clear hx0
            go_wp2_with fail
            all_goals go_meet
            all_goals exact ⟨by have := HE.out; congr 1; omega, rfl⟩
        case rest =>
          obtain ⟨rfl, hw⟩ := hcut
          subst hw
          clear r1 hzx HNI hn0
          go_wp2_with fail
          go_loopw [5, 6, 8] (fun s5 s6 s8 wr => ∃ (n : Nat) (Q : List LP) (P : List Int), n ≤ 70000 ∧ s8 = .int .i64 (n : Int) ∧ LS W0 wr Q s5 P s6 ∧ pushN m n0 (Q0.map Prod.fst, P0) = pushN m n (Q.map Prod.fst, P) ∧ P.length ≤ m ∧ Q.length + n / 255 ≤ 280 * i + 275) (fun _ _ s8 _ => (intOf s8).toNat)
          case atStart => exact ⟨n0, Q0, P0, hn7, rfl, HS.out, rfl, hpm, by omega⟩
          case round =>
            clear HS
            obtain ⟨n, Q, P, hnb, rfl, hs, hpu, hpm2, hql2⟩ := hrel
            obtain ⟨ao, co, ev⟩ := owns_sl hs.own5
            subst ev
            obtain ⟨ap, cp, ev⟩ := owns_sl hs.own6
            subst ev
            have HS := hid hs
            have HPU := hid hpu
            clear hs hpu
            by_cases hpf : P.length = m
            · have hb26 : ((P.length : Int) == (m : Int)) = true := by rw [beq_iff_eq]; omega
              have HPF := hid hpf
              clear hpf
              go_upto_region 11 with (at_builtin; go_loud (refine wpList_append_row _ rfl (.tmp 27) (.tmp 29) 45 rfl W0.heap.size 37 iR (.slice none 0 0) 1 24 Tryd.underlying45 HIR.out.1 HIR.out.2.1 HIR.out.2.2.1 HIR.out.2.2.2 rfl (by decide) (.slice ao Q.length co) Q.length _ rfl (HS.out.low (below_new _ _)).own5 ⟨wr.heap.size, 0, none⟩ 1 1 [.slice ap P.length cp] rfl rfl (one_new wr _ _) (by simp [Value.oneCell']) (by simp only [maxLen]; omega) (by omega) (HS.out.low (below_new _ _)).bl.size ?_); intro v7 w7 ho7 hg7 hx7)
              have HS7 : Hid (LS W0 w7 (Q ++ [(P, ap, cp)]) v7 [] noS) := (HS.out.low (below_new _ _)).push5 (by omega) ho7.out hg7.out hx7.out
              obtain ⟨ao7, co7, ev⟩ := owns_sl HS7.out.own5
              subst ev
              clear HS ho7 hg7 hx7 hb26
              have hQl : (Q ++ [(P, ap, cp)]).length = Q.length + 1 := by rw [List.length_append, List.length_singleton]
              obtain ⟨Q7, hQ7⟩ : ∃ Q7, Q7 = Q ++ [(P, ap, cp)] := ⟨_, rfl⟩
              rw [← hQ7] at HS7 hQl
              rw [← hQ7]
              have HQ7 : Hid (Q7.map Prod.fst = Q.map Prod.fst ++ [P]) := by show _ = _; rw [hQ7, List.map_append]; rfl
              clear hQ7
              have hq7 : Q7.length + n / 255 ≤ 280 * i + 276 := by omega
              have HQL := hid hQl
              clear hQl
              by_cases hn255 : n < 255
              · have hns : n < 255 := hn255
                have hmin : (if (255 : Int) < (n : Int) then (255 : Int) else (n : Int)) = (n : Int) := if_neg (by omega)
                go_upto_region 12 with (at_builtin; go_loud (refine wpList_append_row _ rfl (.tmp 31) (.tmp 34) 37 rfl W0.heap.size 3 iI (.int .i64 0) 1 8 Tryd.underlying37 HII.out.1 HII.out.2.1 HII.out.2.2.1 HII.out.2.2.2 rfl (by decide) (noS) 0 _ rfl (HS7.out.low (below_new _ _)).own6 ⟨w7.heap.size, 0, none⟩ 1 1 [.int .i64 (n : Int)] rfl rfl (one_new w7 _ _) (by simp [Value.oneCell']) (by simp only [maxLen]; omega) (by omega) (HS7.out.low (below_new _ _)).bl.size ?_); intro v8 w8 ho8 hg8 hx8)
                obtain ⟨P3, hP3e⟩ : ∃ P3, P3 = ([] : List Int) ++ [(n : Int)] := ⟨_, rfl⟩
                have HS8 : Hid (LS W0 w8 Q7 (.slice ao7 Q7.length co7) P3 v8) := by
                  have := (HS7.out.low (below_new _ _)).push6 (x := n) (by omega) ho8.out hg8.out hx8.out
                  rw [← hP3e] at this
                  exact this
                have HP3 : Hid (P3.length ≤ m) := by show _ ≤ _; rw [hP3e]; exact hmb.1
                have HEQ : Hid ((Q7.map Prod.fst, P3) = pushN m n0 (Q0.map Prod.fst, P0)) := by
                  show _ = _
                  rw [HPU.out, pushN_small m n _ (by omega), hP3e]
                  unfold push1; rw [if_pos HPF.out, HQ7.out]; rfl
                clear HS7 ho8 hg8 hx8 hP3e HPU hn255 hmin
                obtain ⟨ap3, cp3, ev⟩ := owns_sl HS8.out.own6
                subst ev
                go_upto_region 14 with fail
                clear hns
                have hP3 : P3.length ≤ m := HP3.out
                by_cases hi0 : i = 0
                · have hb1 : ((i : Int) == 0) = true := by rw [beq_iff_eq]; omega
                  have HST2 := hid HST.out
                  rw [if_pos (by omega), ← HEQ.out] at HST2
                  clear HST HEQ HP3
                  go_wp2_with (at_builtin; go_loud (refine wpList_append_row _ rfl (.tmp 49) (.tmp 51) 45 rfl W0.heap.size 37 iR (.slice none 0 0) 1 24 Tryd.underlying45 HIR.out.1 HIR.out.2.1 HIR.out.2.2.1 HIR.out.2.2.2 rfl (by decide) (.slice ao7 Q7.length co7) Q7.length _ rfl (HS8.out.low (below_new _ _)).own5 ⟨w8.heap.size, 0, none⟩ 1 1 [.slice ap3 P3.length cp3] rfl rfl (one_new w8 _ _) (by simp [Value.oneCell']) (by simp only [maxLen]; omega) (by omega) (HS8.out.low (below_new _ _)).bl.size ?_); intro v7 w7 ho7 hg7 hx7)
                  have HS9 : Hid (LS W0 w7 (Q7 ++ [(P3, ap3, cp3)]) v7 [] noS) := (HS8.out.low (below_new _ _)).push5 (by omega) ho7.out hg7.out hx7.out
                  clear HS8 ho7 hg7 hx7
                  try go_wp2_with fail
                  go_roundw
                  case rel => exact ⟨i + 1, Q7 ++ [(P3, ap3, cp3)], [], by omega, by go_num, HS9.out, by rw [decide_eq_false (by omega), List.map_append]; exact HST2.out, Nat.zero_le _, by rw [List.length_append, List.length_singleton]; omega⟩
                  case measure => simp [intOf]; omega
                · by_cases hil : i + 1 = l.length
                  · have hb1 : ((i : Int) == 0) = false := by rw [beq_eq_false_iff_ne]; omega
                    have hb2 : ((i : Int) == (l.length : Int) - 1) = true := by rw [beq_iff_eq]; omega
                    have HST2 := hid HST.out
                    rw [if_pos (by omega), ← HEQ.out] at HST2
                    clear HST HEQ HP3
                    go_wp2_with (at_builtin; go_loud (refine wpList_append_row _ rfl (.tmp 49) (.tmp 51) 45 rfl W0.heap.size 37 iR (.slice none 0 0) 1 24 Tryd.underlying45 HIR.out.1 HIR.out.2.1 HIR.out.2.2.1 HIR.out.2.2.2 rfl (by decide) (.slice ao7 Q7.length co7) Q7.length _ rfl (HS8.out.low (below_new _ _)).own5 ⟨w8.heap.size, 0, none⟩ 1 1 [.slice ap3 P3.length cp3] rfl rfl (one_new w8 _ _) (by simp [Value.oneCell']) (by simp only [maxLen]; omega) (by omega) (HS8.out.low (below_new _ _)).bl.size ?_); intro v7 w7 ho7 hg7 hx7)
                    have HS9 : Hid (LS W0 w7 (Q7 ++ [(P3, ap3, cp3)]) v7 [] noS) := (HS8.out.low (below_new _ _)).push5 (by omega) ho7.out hg7.out hx7.out
                    clear HS8 ho7 hg7 hx7
                    try go_wp2_with fail
                    go_roundw
                    case rel => exact ⟨i + 1, Q7 ++ [(P3, ap3, cp3)], [], by omega, by go_num, HS9.out, by rw [decide_eq_false (by omega), List.map_append]; exact HST2.out, Nat.zero_le _, by rw [List.length_append, List.length_singleton]; omega⟩
                    case measure => simp [intOf]; omega
                  · have hb1 : ((i : Int) == 0) = false := by rw [beq_eq_false_iff_ne]; omega
                    have hb2 : ((i : Int) == (l.length : Int) - 1) = false := by rw [beq_eq_false_iff_ne]; omega
                    have HST2 := hid HST.out
                    rw [if_neg (by omega), ← HEQ.out] at HST2
                    clear HST HEQ
                    go_wp2_with fail
                    go_roundw
                    case rel => exact ⟨i + 1, Q7, P3, by omega, by go_num, HS8.out, by rw [decide_eq_false (by omega)]; exact HST2.out, HP3.out, by omega⟩
                    case measure => simp [intOf]; omega
              · have hng : 255 ≤ n := by omega
                have hmin : (if (255 : Int) < (n : Int) then (255 : Int) else (n : Int)) = 255 := by split <;> omega
                go_upto_region 12 with (at_builtin; go_loud (refine wpList_append_row _ rfl (.tmp 31) (.tmp 34) 37 rfl W0.heap.size 3 iI (.int .i64 0) 1 8 Tryd.underlying37 HII.out.1 HII.out.2.1 HII.out.2.2.1 HII.out.2.2.2 rfl (by decide) (noS) 0 _ rfl (HS7.out.low (below_new _ _)).own6 ⟨w7.heap.size, 0, none⟩ 1 1 [.int .i64 255] rfl rfl (one_new w7 _ _) (by simp [Value.oneCell']) (by simp only [maxLen]; omega) (by omega) (HS7.out.low (below_new _ _)).bl.size ?_); intro v8 w8 ho8 hg8 hx8)
                obtain ⟨P3, hP3e⟩ : ∃ P3, P3 = ([] : List Int) ++ [(255 : Int)] := ⟨_, rfl⟩
                have HS8 : Hid (LS W0 w8 Q7 (.slice ao7 Q7.length co7) P3 v8) := by
                  have := (HS7.out.low (below_new _ _)).push6 (x := 255) (by omega) ho8.out hg8.out hx8.out
                  have e : ([] : List Int) ++ [((255 : Nat) : Int)] = P3 := hP3e.symm
                  rw [e] at this
                  exact this
                have HP3 : Hid (P3.length ≤ m) := by show _ ≤ _; rw [hP3e]; exact hmb.1
                have HEQ : Hid (pushN m n0 (Q0.map Prod.fst, P0) = pushN m (n - 255) (Q7.map Prod.fst, P3)) := by
                  show _ = _
                  rw [HPU.out, pushN_great m n _ hng, hP3e]
                  congr 1
                  symm
                  unfold push1; rw [if_pos HPF.out, HQ7.out]; rfl
                clear HS7 ho8 hg8 hx8 hP3e HPU hn255 hmin
                obtain ⟨ap3, cp3, ev⟩ := owns_sl HS8.out.own6
                subst ev
                go_wp2_with fail
                go_roundw
                case rel => exact ⟨n - 255, Q7, P3, by omega, by go_num, HS8.out, HEQ.out, HP3.out, by have := HQL.out; omega⟩
                case measure => simp [intOf]; omega
            · have hb26 : ((P.length : Int) == (m : Int)) = false := by rw [beq_eq_false_iff_ne]; omega
              have HPF := hid hpf
              have hpl : P.length + 1 ≤ m := by omega
              clear hpf
              by_cases hn255 : n < 255
              · have hns : n < 255 := hn255
                have hmin : (if (255 : Int) < (n : Int) then (255 : Int) else (n : Int)) = (n : Int) := if_neg (by omega)
                go_upto_region 12 with (at_builtin; go_loud (refine wpList_append_row _ rfl (.tmp 31) (.tmp 34) 37 rfl W0.heap.size 3 iI (.int .i64 0) 1 8 Tryd.underlying37 HII.out.1 HII.out.2.1 HII.out.2.2.1 HII.out.2.2.2 rfl (by decide) (.slice ap P.length cp) P.length _ rfl (HS.out.low (below_new _ _)).own6 ⟨wr.heap.size, 0, none⟩ 1 1 [.int .i64 (n : Int)] rfl rfl (one_new wr _ _) (by simp [Value.oneCell']) (by simp only [maxLen]; omega) (by omega) (HS.out.low (below_new _ _)).bl.size ?_); intro v8 w8 ho8 hg8 hx8)
                obtain ⟨P3, hP3e⟩ : ∃ P3, P3 = P ++ [(n : Int)] := ⟨_, rfl⟩
                have HS8 : Hid (LS W0 w8 Q (.slice ao Q.length co) P3 v8) := by
                  have := (HS.out.low (below_new _ _)).push6 (x := n) (by omega) ho8.out hg8.out hx8.out
                  rw [← hP3e] at this
                  exact this
                have HP3 : Hid (P3.length ≤ m) := by show _ ≤ _; rw [hP3e]; rw [List.length_append, List.length_singleton]; omega
                have HEQ : Hid ((Q.map Prod.fst, P3) = pushN m n0 (Q0.map Prod.fst, P0)) := by
                  show _ = _
                  rw [HPU.out, pushN_small m n _ (by omega), hP3e]
                  unfold push1; rw [if_neg HPF.out]
                clear HS hb26 ho8 hg8 hx8 hP3e HPU hn255 hmin
                obtain ⟨ap3, cp3, ev⟩ := owns_sl HS8.out.own6
                subst ev
                go_upto_region 14 with fail
                clear hns
                have hP3 : P3.length ≤ m := HP3.out
                by_cases hi0 : i = 0
                · have hb1 : ((i : Int) == 0) = true := by rw [beq_iff_eq]; omega
                  have HST2 := hid HST.out
                  rw [if_pos (by omega), ← HEQ.out] at HST2
                  clear HST HEQ HP3
                  go_wp2_with (at_builtin; go_loud (refine wpList_append_row _ rfl (.tmp 49) (.tmp 51) 45 rfl W0.heap.size 37 iR (.slice none 0 0) 1 24 Tryd.underlying45 HIR.out.1 HIR.out.2.1 HIR.out.2.2.1 HIR.out.2.2.2 rfl (by decide) (.slice ao Q.length co) Q.length _ rfl (HS8.out.low (below_new _ _)).own5 ⟨w8.heap.size, 0, none⟩ 1 1 [.slice ap3 P3.length cp3] rfl rfl (one_new w8 _ _) (by simp [Value.oneCell']) (by simp only [maxLen]; omega) (by omega) (HS8.out.low (below_new _ _)).bl.size ?_); intro v7 w7 ho7 hg7 hx7)
                  have HS9 : Hid (LS W0 w7 (Q ++ [(P3, ap3, cp3)]) v7 [] noS) := (HS8.out.low (below_new _ _)).push5 (by omega) ho7.out hg7.out hx7.out
                  clear HS8 ho7 hg7 hx7
                  try go_wp2_with fail
                  go_roundw
                  case rel => exact ⟨i + 1, Q ++ [(P3, ap3, cp3)], [], by omega, by go_num, HS9.out, by rw [decide_eq_false (by omega), List.map_append]; exact HST2.out, Nat.zero_le _, by rw [List.length_append, List.length_singleton]; omega⟩
                  case measure => simp [intOf]; omega
                · by_cases hil : i + 1 = l.length
                  · have hb1 : ((i : Int) == 0) = false := by rw [beq_eq_false_iff_ne]; omega
                    have hb2 : ((i : Int) == (l.length : Int) - 1) = true := by rw [beq_iff_eq]; omega
                    have HST2 := hid HST.out
                    rw [if_pos (by omega), ← HEQ.out] at HST2
                    clear HST HEQ HP3
                    go_wp2_with (at_builtin; go_loud (refine wpList_append_row _ rfl (.tmp 49) (.tmp 51) 45 rfl W0.heap.size 37 iR (.slice none 0 0) 1 24 Tryd.underlying45 HIR.out.1 HIR.out.2.1 HIR.out.2.2.1 HIR.out.2.2.2 rfl (by decide) (.slice ao Q.length co) Q.length _ rfl (HS8.out.low (below_new _ _)).own5 ⟨w8.heap.size, 0, none⟩ 1 1 [.slice ap3 P3.length cp3] rfl rfl (one_new w8 _ _) (by simp [Value.oneCell']) (by simp only [maxLen]; omega) (by omega) (HS8.out.low (below_new _ _)).bl.size ?_); intro v7 w7 ho7 hg7 hx7)
                    have HS9 : Hid (LS W0 w7 (Q ++ [(P3, ap3, cp3)]) v7 [] noS) := (HS8.out.low (below_new _ _)).push5 (by omega) ho7.out hg7.out hx7.out
                    clear HS8 ho7 hg7 hx7
                    try go_wp2_with fail
                    go_roundw
                    case rel => exact ⟨i + 1, Q ++ [(P3, ap3, cp3)], [], by omega, by go_num, HS9.out, by rw [decide_eq_false (by omega), List.map_append]; exact HST2.out, Nat.zero_le _, by rw [List.length_append, List.length_singleton]; omega⟩
                    case measure => simp [intOf]; omega
                  · have hb1 : ((i : Int) == 0) = false := by rw [beq_eq_false_iff_ne]; omega
                    have hb2 : ((i : Int) == (l.length : Int) - 1) = false := by rw [beq_eq_false_iff_ne]; omega
                    have HST2 := hid HST.out
                    rw [if_neg (by omega), ← HEQ.out] at HST2
                    clear HST HEQ
                    go_wp2_with fail
                    go_roundw
                    case rel => exact ⟨i + 1, Q, P3, by omega, by go_num, HS8.out, by rw [decide_eq_false (by omega)]; exact HST2.out, HP3.out, by omega⟩
                    case measure => simp [intOf]; omega
              · have hng : 255 ≤ n := by omega
                have hmin : (if (255 : Int) < (n : Int) then (255 : Int) else (n : Int)) = 255 := by split <;> omega
                go_upto_region 12 with (at_builtin; go_loud (refine wpList_append_row _ rfl (.tmp 31) (.tmp 34) 37 rfl W0.heap.size 3 iI (.int .i64 0) 1 8 Tryd.underlying37 HII.out.1 HII.out.2.1 HII.out.2.2.1 HII.out.2.2.2 rfl (by decide) (.slice ap P.length cp) P.length _ rfl (HS.out.low (below_new _ _)).own6 ⟨wr.heap.size, 0, none⟩ 1 1 [.int .i64 255] rfl rfl (one_new wr _ _) (by simp [Value.oneCell']) (by simp only [maxLen]; omega) (by omega) (HS.out.low (below_new _ _)).bl.size ?_); intro v8 w8 ho8 hg8 hx8)
                obtain ⟨P3, hP3e⟩ : ∃ P3, P3 = P ++ [(255 : Int)] := ⟨_, rfl⟩
                have HS8 : Hid (LS W0 w8 Q (.slice ao Q.length co) P3 v8) := by
                  have := (HS.out.low (below_new _ _)).push6 (x := 255) (by omega) ho8.out hg8.out hx8.out
                  have e : P ++ [((255 : Nat) : Int)] = P3 := hP3e.symm
                  rw [e] at this
                  exact this
                have HP3 : Hid (P3.length ≤ m) := by show _ ≤ _; rw [hP3e]; rw [List.length_append, List.length_singleton]; omega
                have HEQ : Hid (pushN m n0 (Q0.map Prod.fst, P0) = pushN m (n - 255) (Q.map Prod.fst, P3)) := by
                  show _ = _
                  rw [HPU.out, pushN_great m n _ hng, hP3e]
                  congr 1
                  symm
                  unfold push1; rw [if_neg HPF.out]
                clear HS hb26 ho8 hg8 hx8 hP3e HPU hn255 hmin
                obtain ⟨ap3, cp3, ev⟩ := owns_sl HS8.out.own6
                subst ev
                go_wp2_with fail
                go_roundw
                case rel => exact ⟨n - 255, Q, P3, by omega, by go_num, HS8.out, HEQ.out, HP3.out, by omega⟩
                case measure => simp [intOf]; omega
      · have hdn : (szN l).drop i = [] := by rw [List.drop_eq_nil_iff]; unfold szN; rw [List.length_map]; omega
        have HRS : Hid (lacP m (szN l) = Q0.map Prod.fst) := by show _ = _; rw [HLR.out, hdn]; rfl
        obtain ⟨bo, bc, e1, hrow, hle, hno⟩ := HS.out.rows (by omega)
        injection e1 with e2 e3 e4
        subst e2 e4
        have HRW := hid hrow
        have HLE := hid hle
        have HNO := hid hno
        clear hdn hrow hle hno HLR e3
        go_wp2_with fail
        go_ret
        exact ⟨⟨ao, co, by rw [HRS.out, List.length_map]; rfl, by rw [HRS.out]; exact HRW.out, by rw [HRS.out, List.length_map]; exact HLE.out, HNO.out⟩, HS.out.bl⟩

end Go.Proofs.YtjkamannjgcmiaaDoor
