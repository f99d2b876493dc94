/- Own text: the document's page, whatever the text; the walk of its Packets. -/
import Derived.Test.YtjkamannjgcmiaaDoorR15one
namespace Go.Proofs.YtjkamannjgcmiaaDoor
open Go.RowKit
set_option linter.unusedSimpArgs false
set_option linter.unusedVariables false

theorem xone_any (s : ByteArray) (hs : s.size ≤ 140737488351232) (w : World) : Calls Tryd.prog 26 #[.string s] w fun e w' => OneE w.heap.size s e w' ∧ Below w.heap.size w w' := by
  by_cases h : 27 ≤ s.size ∧ seg (bytesOf s) 0 5 = markL ∧ u8 (bytesOf s) 5 ≤ 7 ∧ 27 + u8 (bytesOf s) 26 ≤ s.size
  · refine xone_main s hs w h.1 ?_ h.2.2.1 h.2.2.2
    cases hm : ((s.extract 0 5).toList == [79, 103, 103, 83, 0])
    · exact absurd (by rw [bytesOf_ext, h.2.1]; rfl) (toL_no _ _ hm)
    · rfl
  · exact xone_early s hs w h
/-- What Packets tells. -/
abbrev pktOk (l : List Int) : Prop := lacOk l ∧ opnL (natL l) false = false
def pktE (l : List Int) : Int := if pktOk l then 0 else 60
def pktL (l : List Int) : List Int := if pktOk l then (sizL (natL l) 0).map (fun x : Nat => (x : Int)) else []
structure PQ (w0 wx : World) (out : List Nat) (v : Value) : Prop where
  own : wx.ownsRow w0.heap.size 3 1 v out.length (intsC (out.map fun x : Nat => (x : Int)))
  bl : Below w0.heap.size w0 wx
theorem PQ.low {w0 wx w' : World} {out : List Nat} {v : Value} (h : PQ w0 wx out v) (hb : Below wx.heap.size wx w') : PQ w0 w' out v := ⟨owns_below h.own hb, h.bl.trans (hb.mono h.bl.size)⟩
theorem PQ.push {w0 wx w' : World} {out : List Nat} {v v' : Value} {x : Nat} (h : PQ w0 wx out v) (ho : w'.ownsRow w0.heap.size 3 1 v' (out.length + 1) (intsC (out.map fun x : Nat => (x : Int)) ++ [.int .i64 (x : Int)])) (hg : wx.grownBy w' v.ownBlock) : PQ w0 w' (out ++ [x]) v' :=
  ⟨by rw [List.length_append, List.map_append, intsC_append]; exact ho, grown_to hg h.bl h.bl.size (fun k e => (h.own.lt k e).1)⟩
theorem own_ints {w : World} {B : Nat} {v : Value} {xs : List Int} (h : w.ownsRow B 3 1 v xs.length (intsC xs)) (hn : xs.length ≤ 17592186044415) (hr : ∀ x ∈ xs, -9223372036854775808 ≤ x ∧ x ≤ 9223372036854775807) : ∃ ao cap, v = .slice ao xs.length cap ∧ IntsAt w ao xs ∧ xs.length ≤ cap ∧ (ao = none → cap = 0) := by
  obtain ⟨ao, cap, e, _⟩ := owns_shape h
  have := own_pg (p := ⟨0, 0, 0, 0, xs⟩) h e rfl hn hr
  exact ⟨ao, cap, e, this.la, this.le, this.no⟩
/-- What is left of the laces. -/
structure PI (all rest : List Int) (out : List Nat) (n : Nat) (op : Bool) : Prop where
  siz : sizL (natL all) 0 = out ++ sizL (natL rest) n
  opn : opnL (natL all) false = opnL (natL rest) op
  lac : lacOk all ↔ lacOk rest
  len : out.length + rest.length ≤ all.length
  bd : n + 255 * rest.length ≤ 255 * all.length
theorem PI.cons {all rest : List Int} {out : List Nat} {n : Nat} {op : Bool} {x : Nat} (h : PI all ((x : Int) :: rest) out n op) (hx : x ≤ 255) : (x = 255 → PI all rest out (n + x) true) ∧ (¬ x = 255 → PI all rest (out ++ [n + x]) 0 false) := by
  obtain ⟨h1, h2, h3, h4, h5⟩ := h
  have e : natL ((x : Int) :: rest) = x :: natL rest := by unfold natL; rw [List.map_cons, Int.toNat_natCast]
  rw [e, sizL] at h1
  rw [e, opnL] at h2
  have hl : lacOk ((x : Int) :: rest) ↔ lacOk rest := ⟨fun q y hy => q y (by simp [hy]), fun q y hy => by
    rcases List.mem_cons.1 hy with rfl | hy
    · omega
    · exact q y hy⟩
  rw [List.length_cons] at h4 h5
  refine ⟨fun q => ?_, fun q => ?_⟩
  · subst q
    rw [if_pos rfl] at h1
    rw [decide_eq_true rfl] at h2
    exact ⟨h1, h2, h3.trans hl, by omega, by omega⟩
  · rw [if_neg q] at h1
    rw [decide_eq_false q] at h2
    exact ⟨by rw [h1, List.append_assoc]; rfl, h2, h3.trans hl, by rw [List.length_append, List.length_singleton]; omega, by omega⟩
theorem PI.bad {all rest : List Int} {out : List Nat} {n : Nat} {op : Bool} {x : Int} (h : PI all (x :: rest) out n op) (hx : ¬ (0 ≤ x ∧ x ≤ 255)) : ¬ pktOk all := fun q => hx ((h.lac.1 q.1) x (by simp))
theorem PI.fin {all : List Int} {out : List Nat} {n : Nat} {op : Bool} (h : PI all [] out n op) : (pktOk all ↔ op = false) ∧ sizL (natL all) 0 = out := by
  obtain ⟨h1, h2, h3, _, _⟩ := h
  refine ⟨⟨fun q => ?_, fun q => ⟨h3.2 (fun y hy => by simp at hy), ?_⟩⟩, ?_⟩
  · have := q.2; rw [h2] at this; exact this
  · rw [h2]; exact q
  · rw [h1]; simp [natL, sizL]
theorem lacesL_app (a b : List Pg) : lacesL (a ++ b) = lacesL a ++ lacesL b := by
  induction a with
  | nil => rfl
  | cons p t ih => show p.la ++ lacesL (t ++ b) = _; rw [ih, ← List.append_assoc]; rfl
theorem laces_drop (l : List Pg) (k : Nat) (p : Pg) (hp : l[k]? = some p) : lacesL (l.drop k) = p.la ++ lacesL (l.drop (k + 1)) := by
  obtain ⟨h1, e1⟩ := List.getElem?_eq_some_iff.1 hp
  rw [List.drop_eq_getElem_cons h1, e1]
  rfl
theorem siz_range (l : List Nat) (n : Nat) (B : Nat) (h : n + 255 * l.length ≤ B) (hl : ∀ x ∈ l, x ≤ 255) : ∀ x ∈ sizL l n, x ≤ B := by
  induction l generalizing n with
  | nil => intro x hx; simp [sizL] at hx
  | cons a t ih =>
    intro x hx
    have ha := hl a (by simp)
    rw [List.length_cons] at h
    rw [sizL] at hx
    by_cases q : a = 255
    · rw [if_pos q] at hx
      exact ih (n + 255) (by omega) (fun y hy => hl y (by simp [hy])) x hx
    · rw [if_neg q] at hx
      rcases List.mem_cons.1 hx with rfl | hx
      · omega
      · exact ih 0 (by omega) (fun y hy => hl y (by simp [hy])) x hx
theorem siz_len (l : List Nat) (n : Nat) : (sizL l n).length ≤ l.length := by
  induction l generalizing n with
  | nil => exact Nat.le_refl _
  | cons a t ih =>
    rw [sizL]
    by_cases q : a = 255
    · rw [if_pos q]; have := ih (n + 255); simp; omega
    · rw [if_neg q]; have := ih 0; simp; omega
set_option maxRecDepth 20000 in
set_option maxHeartbeats 3200000 in
theorem xpackets_any (l : List Pg) (a : Option Addr) (c : Nat) (w : World) (hl : PgsAt w a l) (hn : l.length ≤ 1000000000000) (ht : (lacesL l).length ≤ 1000000000000) :
    Calls Tryd.prog 16 #[.slice a l.length c] w fun e w' => (∃ ao cap, e = .returned (.tuple #[.slice ao (pktL (lacesL l)).length cap, .int .i64 (pktE (lacesL l))]) ∧ IntsAt w' ao (pktL (lacesL l)) ∧ (pktL (lacesL l)).length ≤ cap ∧ (ao = none → cap = 0)) ∧ Below w.heap.size w w' := by
  have HL : Hid (PgsAt w a l) := hl
  have HQ0 : Hid (PQ w w [] noS ∧ PI (lacesL l) (lacesL (l.drop 0)) [] 0 false) := ⟨⟨World.ownsRow_nil _ _ _ _, Below.refl _ _⟩, ⟨rfl, rfl, Iff.rfl, by simp, by simp⟩⟩
  have HBAD : Hid (∀ w', Below w.heap.size w w' → ¬ pktOk (lacesL l) → (∃ ao cap, Ending.returned (.tuple #[.slice none 0 0, .int .i64 60]) = .returned (.tuple #[.slice ao (pktL (lacesL l)).length cap, .int .i64 (pktE (lacesL l))]) ∧ IntsAt w' ao (pktL (lacesL l)) ∧ (pktL (lacesL l)).length ≤ cap ∧ (ao = none → cap = 0)) ∧ Below w.heap.size w w') := fun w' hb hbad => by
    have e1 : pktL (lacesL l) = [] := if_neg hbad
    have e2 : pktE (lacesL l) = 60 := if_neg hbad
    rw [e1, e2]
    exact ⟨⟨none, 0, rfl, ⟨Nat.zero_le _, fun x hx => by simp at hx, fun h => absurd h (by simp)⟩, Nat.le_refl _, fun _ => rfl⟩, hb⟩
  have HGOOD : Hid (∀ (w' : World) (out : List Nat) (ao : Option Addr) (cap : Nat), PQ w w' out (.slice ao out.length cap) → pktOk (lacesL l) → sizL (natL (lacesL l)) 0 = out → (∃ bo cap', Ending.returned (.tuple #[.slice ao out.length cap, .int .i64 0]) = .returned (.tuple #[.slice bo (pktL (lacesL l)).length cap', .int .i64 (pktE (lacesL l))]) ∧ IntsAt w' bo (pktL (lacesL l)) ∧ (pktL (lacesL l)).length ≤ cap' ∧ (bo = none → cap' = 0)) ∧ Below w.heap.size w w') := fun w' out ao cap hq hok hout => by
    have e1 : pktL (lacesL l) = out.map (fun x : Nat => (x : Int)) := by unfold pktL; rw [if_pos hok, hout]
    have e2 : pktE (lacesL l) = 0 := if_pos hok
    have hlen := siz_len (natL (lacesL l)) 0
    have hrg := siz_range (natL (lacesL l)) 0 (255 * (lacesL l).length) (by rw [natL_length]; omega) (fun x hx => by have := natL_lt _ hok.1 x hx; omega)
    rw [hout] at hlen hrg
    rw [natL_length] at hlen
    have ho := hq.own
    rw [show out.length = (out.map fun x : Nat => (x : Int)).length by simp] at ho
    obtain ⟨bo, cap', ev, h1, h2, h3⟩ := own_ints ho (by simp; omega) (fun x hx => by
      obtain ⟨y, hy, rfl⟩ := List.mem_map.1 hx
      have := hrg y hy
      omega)
    rw [List.length_map] at ev h2
    injection ev with ev1 ev2 ev3
    subst ev1 ev3
    rw [e1, e2, List.length_map]
    exact ⟨⟨ao, cap, rfl, h1, h2, h3⟩, hq.bl⟩
  obtain ⟨iI, hI0, hI1, hI2, hI3⟩ := info_parts5 info3
  have HII : Hid (Tryd.prog.info? 3 = some iI ∧ iI.zero = some (.int .i64 0) ∧ iI.size = 1 ∧ iI.bytes = 8) := ⟨hI0, hI1, hI2, hI3⟩
  clear hI0 hI1 hI2 hI3 hl
  go_enter Tryd.func16, Tryd.ntmps16
  go_wp2_with fail
  go_loopw [4, 5, 6, 7] (fun s4 s5 s6 s7 wr => ∃ (k n : Nat) (op : Bool) (out : List Nat), k ≤ l.length ∧ s7 = .int .i64 (k : Int) ∧ s6 = .int .i64 (n : Int) ∧ s5 = .bool op ∧ PQ w wr out s4 ∧ PI (lacesL l) (lacesL (l.drop k)) out n op) (fun _ _ _ s7 _ => l.length - (intOf s7).toNat)
  case atStart => exact ⟨0, 0, false, [], Nat.zero_le _, rfl, rfl, rfl, HQ0.out.1, HQ0.out.2⟩
  case round =>
    clear HQ0
    obtain ⟨k, n, op, out, hk, rfl, rfl, rfl, hq, hp⟩ := hrel
    obtain ⟨ao, cap, ev, _⟩ := owns_shape hq.own
    subst ev
    have HQ := hid hq
    have HP := hid hp
    clear hq hp
    by_cases hlt : k < l.length
    · obtain ⟨p, hpk⟩ : ∃ p, l[k]? = some p := ⟨_, List.getElem?_eq_getElem hlt⟩
      obtain ⟨b1, o1, rfl, ap, ac, hpa, q1⟩ := HL.out.at k p hpk
      have HC : Hid (∀ wx, Below w.heap.size w wx → wx.cell? ⟨b1, o1 + k * 5 + 4, none⟩ = some (.slice ap p.la.length ac)) := fun wx hb => (q1 wx hb).2.2.2.2
      have HPA : Hid (IntsAt w ap p.la) := hpa.la
      have hpl := hpa.la.len
      have HP2 : Hid (PI (lacesL l) (p.la.drop 0 ++ lacesL (l.drop (k + 1))) out n op) := by
        have := HP.out
        rw [laces_drop l k p hpk] at this
        exact this
      clear hpa q1 hpk HP
      go_wp2_with fail
      go_loopw [4, 5, 6, 8] (fun s4 s5 s6 s8 wr => ∃ (j n : Nat) (op : Bool) (out : List Nat), j ≤ p.la.length ∧ s8 = .int .i64 (j : Int) ∧ s6 = .int .i64 (n : Int) ∧ s5 = .bool op ∧ PQ w wr out s4 ∧ PI (lacesL l) (p.la.drop j ++ lacesL (l.drop (k + 1))) out n op) (fun _ _ _ s8 _ => p.la.length - (intOf s8).toNat)
      case atStart => exact ⟨0, n, op, out, Nat.zero_le _, rfl, rfl, rfl, HQ.out, HP2.out⟩
      case round =>
        clear HQ HP2
        obtain ⟨j, n2, op2, out2, hj, rfl, rfl, rfl, hq, hp⟩ := hrel
        obtain ⟨ao, cap, ev, _⟩ := owns_shape hq.own
        subst ev
        have HQ := hid hq
        have x4 := HC.out wr hq.bl
        have hbd := hp.bd
        have hol := hp.len
        rw [List.length_append] at hbd hol
        have HP := hid hp
        clear hq hp
        by_cases hjl : j < p.la.length
        · have hjd : p.la.drop j = p.la.getD j 0 :: p.la.drop (j + 1) := by
            rw [List.drop_eq_getElem_cons hjl, List.getD_eq_getElem?_getD, List.getElem?_eq_getElem hjl]
            rfl
          obtain ⟨b2, o2, rfl, q2⟩ := HPA.out.at j hjl
          have r1 := q2 wr HQ.out.bl
          have HP3 : Hid (PI (lacesL l) (p.la.getD j 0 :: (p.la.drop (j + 1) ++ lacesL (l.drop (k + 1)))) out2 n2 op2) := by
            have := HP.out
            rw [hjd] at this
            exact this
          have hrg := HPA.out.rng j
          rw [List.length_drop] at hbd hol
          clear q2 HP hjd
          generalize p.la.getD j 0 = x at *
          by_cases hx0 : x < 0
          · have HNO := hid (HP3.out.bad (by omega))
            clear HP3
            go_wp2_with fail
            go_ret2
            exact HBAD.out _ HQ.out.bl HNO.out
          · by_cases hx2 : 255 < x
            · have HNO := hid (HP3.out.bad (by omega))
              clear HP3
              go_wp2_with fail
              go_ret2
              exact HBAD.out _ HQ.out.bl HNO.out
            · obtain ⟨y, rfl⟩ : ∃ y : Nat, x = (y : Int) := ⟨x.toNat, by omega⟩
              have HCN := hid (HP3.out.cons (by omega))
              clear HP3
              by_cases hy : y = 255
              · have HP4 := hid (HCN.out.1 hy)
                subst hy
                clear HCN
                go_wp2_with fail
                go_roundw
                case rel => exact ⟨j + 1, n2 + 255, true, out2, by omega, by go_num, by go_num, rfl, HQ.out, HP4.out⟩
                case measure => simp [intOf]; omega
              · have HP4 := hid (HCN.out.2 hy)
                have hyb : ((y : Int) == 255) = false := by rw [beq_eq_false_iff_ne]; omega
                obtain ⟨n3, hn3⟩ : ∃ n3, n3 = n2 + y := ⟨_, rfl⟩
                rw [← hn3] at HP4
                have hni : (n2 : Int) + (y : Int) = (n3 : Int) := by omega
                have h3b : n3 ≤ 255000000000255 := by omega
                clear HCN hy hn3
                go_wp2_with (at_builtin; go_loud (refine wpList_append_row _ rfl (.tmp 47) (.tmp 49) 37 rfl w.heap.size 3 iI (.int .i64 0) 1 8 Tryd.underlying37 HII.out.1 HII.out.2.1 HII.out.2.2.1 HII.out.2.2.2 rfl (by decide) (.slice ao out2.length cap) out2.length _ rfl (HQ.out.low (below_new _ _)).own ⟨wr.heap.size, 0, none⟩ 1 1 [.int .i64 (n3 : Int)] rfl rfl (one_new wr _ _) (by simp [Value.oneCell']) (by simp only [maxLen]; omega) (by omega) (HQ.out.low (below_new _ _)).bl.size ?_); intro v6 w6 ho6 hg6 hx6)
                have HX6 : Hid (PQ w w6 (out2 ++ [n3]) v6) := (HQ.out.low (below_new _ _)).push ho6.out hg6.out
                clear HQ ho6 hg6 hx6
                try go_wp2_with fail
                go_roundw
                case rel => exact ⟨j + 1, 0, false, out2 ++ [n3], by omega, by go_num, rfl, rfl, HX6.out, HP4.out⟩
                case measure => simp [intOf]; omega
        · have HP5 : Hid (PI (lacesL l) (lacesL (l.drop (k + 1))) out2 n2 op2) := by
            have := HP.out
            rw [List.drop_of_length_le (by omega), List.nil_append] at this
            exact this
          clear HP
          go_wp2_with fail
          go_roundw
          case rel => exact ⟨k + 1, n2, op2, out2, by omega, by go_num, rfl, rfl, HQ.out, HP5.out⟩
          case measure => simp [intOf]; omega
    · have HP5 : Hid (PI (lacesL l) [] out n op) := by
        have := HP.out
        rw [List.drop_of_length_le (by omega)] at this
        exact this
      have HF := hid HP5.out.fin
      clear HP HP5
      cases op
      · go_wp2_with fail
        go_ret2
        exact HGOOD.out _ out ao cap HQ.out (HF.out.1.2 (by simp)) HF.out.2
      · go_wp2_with fail
        go_ret2
        exact HBAD.out _ HQ.out.bl (fun q => by have := HF.out.1.1 q; simp at this)

end Go.Proofs.YtjkamannjgcmiaaDoor
