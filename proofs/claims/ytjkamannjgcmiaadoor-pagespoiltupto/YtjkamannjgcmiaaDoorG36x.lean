/- Own text: the iterator over the pages of a text. the iterator over pages that are to be laid. -/
import Derived.Test.YtjkamannjgcmiaaDoorG32x
import Derived.Test.YtjkamannjgcmiaaDoorG29x
import Derived.OrdersIn
namespace Go.Proofs.YtjkamannjgcmiaaDoor
open Go.RowKit
set_option linter.unusedSimpArgs false
set_option linter.unusedVariables false

def szV : Value → Nat
  | .string b => b.size
  | _ => 0
/-- The pages of a text, up to its end or to what is none. -/
def rdQ : Nat → ByteArray → List PE
  | 0, _ => []
  | f + 1, s => if s.size = 0 then [] else if rdOk (bytesOf s) then (rdP s, 0) :: rdQ f (s.extract (endN (bytesOf s)) s.size) else [(Sh0, 2)]
theorem toL_empty (r : ByteArray) : r.toList.isEmpty = decide (r.size = 0) := by
  rw [ByteArray.toList_eq]
  have h : r.data.toList.length = r.size := rfl
  cases hl : r.data.toList with
  | nil => rw [hl] at h; simp at h; simp [← h]
  | cons a t => rw [hl] at h; simp at h; simp [← h]
theorem end_ge (L : List Nat) : 27 ≤ endN L := by unfold endN; omega
set_option maxRecDepth 20000 in
set_option maxHeartbeats 3200000 in
theorem j_sheetsIn1 (s : ByteArray) (hs : s.size ≤ 140737488351232) (wA w0 : World) (hL : S3.RulesAt wA) (hA : Below wA.heap.size wA w0) (g : Nat) (hb : Box w0 g #[.string s] 9) :
    Goes Tryd.prog 36 #[.pointer (some ⟨g, 0, none⟩)] encS (SQ wA.heap.size) wA.heap.size (fun xs => plL xs = rdQ (s.size + 1) s) (fun pre => plL pre <+: rdQ (s.size + 1) s) (s.size + 1) w0 := by
  intro lp J Jx W hW hJ hJx hY h0
  have HL := hid hL
  have HWA : Hid (Below wA.heap.size wA W) := hA.trans (hW.mono hA.size)
  have HJ := hid hJ
  have HY := hid hY
  have hbW := hb.keep hW
  have c0 := hbW.c 0 _ rfl
  clear hL hW hA hJ hJx hY hb hbW
  show Calls _ _ #[.func (.yield lp) #[] #[], .pointer (some ⟨g, 0, none⟩)] _ _
  refine (callsIn_wide (n := 0)).1 (callsIn_of_wp Tryd.func36 rfl trivial ?_ rfl)
  simp only [Tryd.ntmps36, List.size_toArray, List.length_cons, List.length_nil, Nat.reduceAdd, Nat.reduceSub, Array.replicate_succ, Array.replicate_zero, List.push_toArray, List.append_toArray, List.nil_append, List.cons_append]
  gi_wp2
  gi_loopw [3] (fun t wr => ∃ (r : ByteArray) (pre : List SE) (f : Nat), t = .string r ∧ rdQ (s.size + 1) s = plL pre ++ rdQ f r ∧ r.size < f ∧ pre.length + r.size ≤ s.size ∧ J pre wr ∧ Below wA.heap.size W wr) (fun t _ => szV t)
  case atStart => exact ⟨s, [], s.size + 1, rfl, rfl, by omega, by simp, h0, Below.refl _ _⟩
  case round =>
    obtain ⟨r, pre, f, rfl, hq, hf, hps, hj, hbr⟩ := hrel
    have HQ := hid hq
    have HR : Hid (J pre wr ∧ Below wA.heap.size W wr) := ⟨hj, hbr⟩
    clear hq hj hbr h0 c0
    have he := toL_empty r
    by_cases hr : r.size = 0
    · rw [decide_eq_true hr] at he
      have HF : Hid (plL pre = rdQ (s.size + 1) s) := by
        show _ = _
        rw [HQ.out]
        cases f with
        | zero => omega
        | succ f => rw [rdQ, if_pos hr, List.append_nil]
      clear hr
      gi_wp2
      go_end0
      exact ⟨⟨_, rfl⟩, Or.inl ⟨_, HF.out, HR.out.1⟩⟩
    · rw [decide_eq_false hr] at he
      have kr := j_read r (by omega) wr (HL.out.below (HWA.out.trans HR.out.2))
      have HRZ := hid hr
      clear hr
      gi_wp2_with fail
      refine ⟨trivial, rfl, (callsIn_wide.2 kr).mono ?_⟩
      rintro e w2 ⟨⟨he1, he2⟩, hb2⟩
      have H2 : Hid (Below wr.heap.size wr w2 ∧ J pre w2 ∧ Below wA.heap.size W w2) := ⟨hb2, HJ.out _ _ _ HR.out.1 hb2, below_on HR.out.2 (Nat.le_trans HWA.out.size HR.out.2.size) hb2⟩
      have hwr : wA.heap.size ≤ wr.heap.size := Nat.le_trans HWA.out.size HR.out.2.size
      clear kr hb2 he
      by_cases hok : rdOk (bytesOf r)
      · obtain ⟨ao, c, rfl, hpg, hfr⟩ := he1 hok
        have HX : Hid (rdQ f r = (rdP r, 0) :: rdQ (f - 1) (r.extract (endN (bytesOf r)) r.size)) := by
          show _ = _
          cases f with
          | zero => omega
          | succ f => rw [rdQ, if_neg HRZ.out, if_pos hok]; rfl
        have hen := end_ge (bytesOf r)
        have hen2 := hok.2.2.2.1
        rw [bytesOf_length] at hen2
        generalize endN (bytesOf r) = en at *
        have hsl := slice_from r en hen2
        have hz := ext_len r en r.size hen2 (Nat.le_refl _)
        have HZ := hid hz
        generalize r.extract en r.size = r2 at *
        generalize hP : rdP r = x at *
        obtain ⟨p, b⟩ := x
        have HPG : Hid (SQ wA.heap.size (((⟨p, b⟩, ao, c), 0) : SE) wr (w2.alloc (.cells #[.int .i64 p.fl, .int .i64 p.se, .int .i64 p.sq, .int .i64 p.gr, .slice ao p.la.length c, .string b] 74))) := ⟨hpg.below (below_new _ _), fun h0 k hk => by
          obtain ⟨b1, o1, e1, hc1⟩ := (hpg.below (below_new w2 (.cells #[.int .i64 p.fl, .int .i64 p.se, .int .i64 p.sq, .int .i64 p.gr, .slice ao p.la.length c, .string b] 74))).la.lies h0
          subst e1
          have hk2 : b1 = k := Option.some.inj hk
          subst hk2
          exact ⟨lt_cell (hc1 0 h0), .inr (hfr _ hk)⟩⟩
        have hy := HY.out pre (((⟨p, b⟩, ao, c), 0) : SE) wr (w2.alloc (.cells #[.int .i64 p.fl, .int .i64 p.se, .int .i64 p.sq, .int .i64 p.gr, .slice ao p.la.length c, .string b] 74)) HR.out.1 (below_on H2.out.1 H2.out.1.size (below_new _ _)) HPG.out (H2.out.2.2.alloc (Nat.le_trans hwr H2.out.1.size) _) (by omega)
        have HP2 : Hid (rdQ (s.size + 1) s = plL (pre ++ [(((⟨p, b⟩, ao, c), 0) : SE)]) ++ rdQ (f - 1) r2) := by
          show _ = _
          rw [HQ.out, HX.out, plL_snoc, List.append_assoc]
          rfl
        have HBX : Hid (Below wA.heap.size W (w2.alloc (.cells #[.int .i64 p.fl, .int .i64 p.se, .int .i64 p.sq, .int .i64 p.gr, .slice ao p.la.length c, .string b] 74))) := H2.out.2.2.alloc (Nat.le_trans hwr H2.out.1.size) _
        obtain ⟨fn, tmps, assign, body, hy, hR⟩ := hy
        have hr2 : r2.size < f - 1 ∧ pre.length + 1 + r2.size ≤ s.size ∧ r2.size < r.size := by omega
        clear he1 he2 hpg hfr hz hP hok hen
        gi_wp2
        refine ⟨rfl, hR.mono ?_⟩
        rintro e W3 (⟨rfl, hJ3, hb3⟩ | ⟨rfl, hx3⟩)
        · have H3 : Hid (J (pre ++ [(((⟨p, b⟩, ao, c), 0) : SE)]) W3 ∧ Below wA.heap.size W W3) := ⟨hJ3, HBX.out.trans hb3⟩
          clear hJ3 hb3 hR hy
          gi_wp2
          go_roundw
          case rel => exact ⟨r2, pre ++ [(((⟨p, b⟩, ao, c), 0) : SE)], f - 1, rfl, HP2.out, hr2.1, by rw [List.length_append, List.length_singleton]; omega, H3.out⟩
          case measure => exact hr2.2.2
        · have H3 := hid hx3
          clear hx3 hR hy
          gi_wp2
          refine bodyPost_ret (results_none rfl _ _ _) rfl ?_
          exact ⟨⟨_, rfl⟩, Or.inr ⟨_, by rw [HP2.out]; exact List.prefix_append _ _, H3.out⟩⟩
      · obtain rfl := he2 hok
        have HX : Hid (rdQ f r = [(Sh0, 2)]) := by
          show _ = _
          cases f with
          | zero => omega
          | succ f => rw [rdQ, if_neg HRZ.out, if_neg hok]
        have HP2 : Hid (rdQ (s.size + 1) s = plL (pre ++ [(((Sh0, none, 0), 2) : SE)])) := by
          show _ = _
          rw [HQ.out, HX.out, plL_snoc]
          rfl
        have HPG : Hid (SQ wA.heap.size (((Sh0, none, 0), 2) : SE) wr (w2.alloc (.cells #[.int .i64 0, .int .i64 0, .int .i64 0, .int .i64 0, .slice none 0 0, .string ⟨#[]⟩] 74))) := ⟨⟨⟨Nat.zero_le _, fun n hn => by simp at hn, fun h => absurd h (by simp)⟩, Nat.le_refl _, fun _ => rfl⟩, fun h => absurd h (by simp)⟩
        have hy := HY.out pre (((Sh0, none, 0), 2) : SE) wr (w2.alloc (.cells #[.int .i64 0, .int .i64 0, .int .i64 0, .int .i64 0, .slice none 0 0, .string ⟨#[]⟩] 74)) HR.out.1 (below_on H2.out.1 H2.out.1.size (below_new _ _)) HPG.out (H2.out.2.2.alloc (Nat.le_trans hwr H2.out.1.size) _) (by omega)
        obtain ⟨fn, tmps, assign, body, hy, hR⟩ := hy
        have hy : (Instr.yield lp #[.agg #[.int .i64 0, .int .i64 0, .int .i64 0, .int .i64 0, .slice none 0 0, .string ⟨#[]⟩], .int .i64 2]).run Tryd.prog (w2.alloc (.cells #[.int .i64 0, .int .i64 0, .int .i64 0, .int .i64 0, .slice none 0 0, .string ⟨#[]⟩] 74)) = .ok (.round lp fn tmps assign body) (w2.alloc (.cells #[.int .i64 0, .int .i64 0, .int .i64 0, .int .i64 0, .slice none 0 0, .string ⟨#[]⟩] 74)) := hy
        clear he1 he2 hok
        gi_wp2
        refine ⟨rfl, hR.mono ?_⟩
        rintro e W3 (⟨rfl, hJ3, hb3⟩ | ⟨rfl, hx3⟩)
        · have H3 := hid hJ3
          clear hJ3 hb3 hR hy
          gi_wp2
          refine bodyPost_ret (results_none rfl _ _ _) rfl ?_
          exact ⟨⟨_, rfl⟩, Or.inl ⟨_, HP2.out.symm, H3.out⟩⟩
        · have H3 := hid hx3
          clear hx3 hR hy
          gi_wp2
          refine bodyPost_ret (results_none rfl _ _ _) rfl ?_
          exact ⟨⟨_, rfl⟩, Or.inr ⟨_, by rw [HP2.out]; exact List.prefix_refl _, H3.out⟩⟩
set_option maxRecDepth 20000 in
set_option maxHeartbeats 1600000 in
theorem j_sheetsIn (s : ByteArray) (w : World) : Calls Tryd.prog 23 #[.string s] w fun e w' => e = .returned (.func (.func 36) #[] #[.pointer (some ⟨w.heap.size, 0, none⟩)]) ∧ w' = w.alloc (.cells #[.string s] 9) := by
  go_enter Tryd.func23, Tryd.ntmps23
  go_wp2
  go_ret
  exact ⟨rfl, rfl⟩

end Go.Proofs.YtjkamannjgcmiaaDoor

namespace Go.Proofs.YtjkamannjgcmiaaDoor
open Go.RowKit
set_option linter.unusedSimpArgs false
set_option linter.unusedVariables false

/-- The pages with what each asks for. -/
def ofL : List Pg → ByteArray → List PE
  | [], _ => []
  | p :: t, T => (⟨p, T.extract 0 (natL p.la).sum⟩, 0) :: ofL t (T.extract (natL p.la).sum T.size)
theorem ofL_len : ∀ (l : List Pg) (T : ByteArray), (ofL l T).length = l.length
  | [], _ => rfl
  | p :: t, T => by rw [ofL, List.length_cons, ofL_len t, List.length_cons]
set_option maxRecDepth 20000 in
set_option maxHeartbeats 3200000 in
theorem j_sheetsOf1 (l : List Pg) (a : Option Addr) (c : Nat) (T : ByteArray) (wA w0 : World) (hl : PgsAt wA a l) (hn : l.length ≤ 1000000000000) (hT : T.size ≤ 140737488351232) (hlo : lacOk (lacesL l)) (hsz : (natL (lacesL l)).sum ≤ T.size) (hA : Below wA.heap.size wA w0) (ga gb : Nat) (hb : Box w0 gb #[.string T] 9) (ha : Box w0 ga #[.slice a l.length c] 22) :
    Goes Tryd.prog 45 #[.pointer (some ⟨gb, 0, none⟩), .pointer (some ⟨ga, 0, none⟩)] encS (SQ wA.heap.size) wA.heap.size (fun xs => plL xs = ofL l T) (fun pre => plL pre <+: ofL l T) l.length w0 := by
  intro lp J Jx W hW hJ hJx hY h0
  have HL := hid hl
  have HLO := hid hlo
  have HWA : Hid (Below wA.heap.size wA W) := hA.trans (hW.mono hA.size)
  have HJ := hid hJ
  have HY := hid hY
  have c0 := (hb.keep hW).c 0 _ rfl
  have c1 := (ha.keep hW).c 0 _ rfl
  have HSZ0 := hid hsz
  clear hl hW hA hJ hJx hY hb ha hlo hsz
  show Calls _ _ #[.func (.yield lp) #[] #[], .pointer (some ⟨gb, 0, none⟩), .pointer (some ⟨ga, 0, none⟩)] _ _
  refine (callsIn_wide (n := 0)).1 (callsIn_of_wp Tryd.func45 rfl trivial ?_ rfl)
  simp only [Tryd.ntmps45, List.size_toArray, List.length_cons, List.length_nil, Nat.reduceAdd, Nat.reduceSub, Array.replicate_succ, Array.replicate_zero, List.push_toArray, List.append_toArray, List.nil_append, List.cons_append]
  gi_wp2
  gi_loopw [4, 11] (fun s4 s11 wr => ∃ (i : Nat) (r : ByteArray) (pre : List SE), s4 = .string r ∧ s11 = .int .i64 (i : Int) ∧ i ≤ l.length ∧ pre.length = i ∧ r.size ≤ T.size ∧ ofL l T = plL pre ++ ofL (l.drop i) r ∧ (natL (lacesL (l.drop i))).sum ≤ r.size ∧ J pre wr ∧ Below wA.heap.size W wr) (fun _ s11 _ => l.length - (intOf s11).toNat)
  case atStart => exact ⟨0, T, [], rfl, rfl, Nat.zero_le _, rfl, Nat.le_refl _, rfl, HSZ0.out, h0, Below.refl _ _⟩
  case round =>
    obtain ⟨i, r, pre, rfl, rfl, hi, hpi, hrT, hq, hsm, hj, hbr⟩ := hrel
    have HQ := hid hq
    have HR : Hid (J pre wr ∧ Below wA.heap.size W wr) := ⟨hj, hbr⟩
    have HPI := hid hpi
    have HSM := hid hsm
    clear hq hj hbr h0 c0 c1 hpi hsm
    by_cases hlt : i < l.length
    · obtain ⟨p, hpk⟩ : ∃ p, l[i]? = some p := ⟨_, List.getElem?_eq_getElem hlt⟩
      obtain ⟨b1, o1, rfl, ap, pc, hpa, q1⟩ := HL.out.at i p hpk
      have HD : Hid (l.drop i = p :: l.drop (i + 1)) := by
        show _ = _
        obtain ⟨h1, e1⟩ := List.getElem?_eq_some_iff.1 hpk
        rw [List.drop_eq_getElem_cons h1, e1]
      have HPL : Hid (lacOk p.la) := fun x hx => HLO.out x (by
        have := laces_step l i p hpk
        have h2 : lacesL l = lacesL (l.take (i + 1)) ++ lacesL (l.drop (i + 1)) := by rw [← laces_app, List.take_append_drop]
        rw [h2, this]
        simp [hx])
      obtain ⟨y0, y1, y2, y3, y4⟩ := q1 wr (HWA.out.trans HR.out.2)
      have hsm2 := HSM.out
      rw [HD.out] at hsm2
      have e2 : (natL (lacesL (p :: l.drop (i + 1)))).sum = (natL p.la).sum + (natL (lacesL (l.drop (i + 1)))).sum := by
        show (natL (p.la ++ lacesL (l.drop (i + 1)))).sum = _
        unfold natL
        rw [List.map_append, List.sum_append]
      rw [e2] at hsm2
      have hQ2 := HQ.out
      rw [HD.out, ofL] at hQ2
      have kt := fun w hw => j_total p.la ap pc w hw HPL.out
      obtain ⟨n, hn2⟩ : ∃ n, n = (natL p.la).sum := ⟨_, rfl⟩
      rw [← hn2] at hsm2 hQ2 kt
      have hnr : n ≤ r.size := by omega
      have HS2 : Hid ((natL (lacesL (l.drop (i + 1)))).sum ≤ (r.extract n r.size).size) := by
        show _ ≤ _
        rw [ext_len r n r.size hnr (Nat.le_refl _)]
        omega
      have sl1 := slice_upto r n hnr
      have sl2 := slice_from r n hnr
      have hz2 : (r.extract n r.size).size ≤ T.size := by rw [ext_len r n r.size hnr (Nat.le_refl _)]; omega
      have HPA := hid hpa
      have HKT := hid kt
      generalize r.extract n r.size = r2 at *
      generalize r.extract 0 n = X at *
      have HXT : Hid (ofL l T = plL (pre ++ [((⟨p, X⟩, ap, pc), 0)]) ++ ofL (l.drop (i + 1)) r2) := by
        show _ = _
        rw [hQ2, plL_snoc, List.append_assoc]
        rfl
      clear hpk q1 hsm2 e2 hQ2 kt hn2 hpa HQ
      gi_wp2_with fail
      have kt := HKT.out (wr.alloc (.cells #[.int .i64 p.fl, .int .i64 p.se, .int .i64 p.sq, .int .i64 p.gr, .slice ap p.la.length pc] 49)) ((HPA.out.below (HWA.out.trans HR.out.2)).below (below_new _ _)).la
      refine ⟨trivial, rfl, (callsIn_wide.2 kt).mono ?_⟩
      rintro e w2 ⟨rfl, rfl⟩
      have HW1 : Hid (Below wr.heap.size wr (wr.alloc (.cells #[.int .i64 p.fl, .int .i64 p.se, .int .i64 p.sq, .int .i64 p.gr, .slice ap p.la.length pc] 49)).drew ∧ Box (wr.alloc (.cells #[.int .i64 p.fl, .int .i64 p.se, .int .i64 p.sq, .int .i64 p.gr, .slice ap p.la.length pc] 49)).drew wr.heap.size #[.int .i64 p.fl, .int .i64 p.se, .int .i64 p.sq, .int .i64 p.gr, .slice ap p.la.length pc] 49) := ⟨below_on (below_new _ _) (by simp) (below_drew _), (Box.new _ _ _).drew⟩
      gi_wp2_with fail
      refine wpIn_region_any (by kernel_rfl) ?_
      change wpAnyIn _ _ _ _ _ _ _ _ _ (World.drew _)
      generalize (wr.alloc (.cells #[.int .i64 p.fl, .int .i64 p.se, .int .i64 p.sq, .int .i64 p.gr, .slice ap p.la.length pc] 49)).drew = w1 at *
      have hw1 := below_on HR.out.2 (Nat.le_trans HWA.out.size HR.out.2.size) HW1.out.1
      have hpw := HPA.out.below (HWA.out.trans hw1)
      have HSQ : Hid (SQ wA.heap.size (((⟨p, X⟩, ap, pc), 0) : SE) wr w1) := ⟨hpw, fun h0 k hk => by
        obtain ⟨b3, o3, e3, hc3⟩ := HPA.out.la.lies h0
        subst e3
        have hk2 : b3 = k := Option.some.inj hk
        subst hk2
        have h1 := lt_cell (hc3 0 h0)
        have h2 := HWA.out.size
        have h3 := hw1.size
        have h1 : b3 < wA.heap.size := h1
        exact ⟨by omega, .inl h1⟩⟩
      have hy := HY.out pre (((⟨p, X⟩, ap, pc), 0) : SE) wr w1 HR.out.1 HW1.out.1 HSQ.out hw1 (by rw [HPI.out]; exact hlt)
      obtain ⟨fn, tmps, assign, body, hy, hR⟩ := hy
      have hy : (Instr.yield lp #[.agg #[.int .i64 p.fl, .int .i64 p.se, .int .i64 p.sq, .int .i64 p.gr, .slice ap p.la.length pc, .string X], .int .i64 0]).run Tryd.prog w1 = .ok (.round lp fn tmps assign body) w1 := hy
      have HWW := hid hw1
      have z0 := HW1.out.2.c 0 _ rfl
      have z1 := HW1.out.2.c 1 _ rfl
      have z2 := HW1.out.2.c 2 _ rfl
      have z3 := HW1.out.2.c 3 _ rfl
      have z4 := HW1.out.2.c 4 _ rfl
      clear hw1 hpw HPA HKT y0 y1 y2 y3 y4
      refine wpAnyIn_take (i := 0) (v := .func (.yield lp) #[] #[]) rfl rfl (by kernel_rfl) (by kernel_rfl) (by kernel_rfl) (fun _ _ _ h => h) ⟨Or.inl ⟨by rfl, fun w => by go_simp⟩, fun w => by rfl⟩ ?_
      simp only [Act.put, List.getElem_toArray, List.getElem_cons_succ, List.getElem_cons_zero, List.setIfInBounds_toArray, List.set_cons_zero, List.set_cons_succ]
      refine wpAnyIn_take (i := 2) (v := .string r) rfl rfl (by kernel_rfl) (by kernel_rfl) (by kernel_rfl) (fun _ _ _ h => h) ⟨Or.inl ⟨by rfl, fun w => by go_simp⟩, fun w => by rfl⟩ ?_
      simp only [Act.put, List.getElem_toArray, List.getElem_cons_succ, List.getElem_cons_zero, List.setIfInBounds_toArray, List.set_cons_zero, List.set_cons_succ]
      refine wpAnyIn_take (i := 3) (v := .int .i64 (n : Int)) rfl rfl (by kernel_rfl) (by kernel_rfl) (by kernel_rfl) (fun _ _ _ h => h) ⟨Or.inl ⟨by rfl, fun w => by go_simp⟩, fun w => by rfl⟩ ?_
      simp only [Act.put, List.getElem_toArray, List.getElem_cons_succ, List.getElem_cons_zero, List.setIfInBounds_toArray, List.set_cons_zero, List.set_cons_succ]
      refine wpAnyIn_take (i := 4) (v := .string X) rfl rfl (by kernel_rfl) (by kernel_rfl) (by kernel_rfl) (fun _ _ _ h => h) ⟨Or.inl ⟨by rfl, fun w => by go_simp⟩, fun w => by rfl⟩ ?_
      simp only [Act.put, List.getElem_toArray, List.getElem_cons_succ, List.getElem_cons_zero, List.setIfInBounds_toArray, List.set_cons_zero, List.set_cons_succ]
      refine wpAnyIn_ready (rs := [1]) (by kernel_rfl) (by simp) ?_
      refine AllReadyIn.cons rfl (fun K hK => ?_) AllReadyIn.nil
      rw [if_pos (by rfl)]
      simp only [Act.put, List.getElem_toArray, List.getElem_cons_succ, List.getElem_cons_zero, List.setIfInBounds_toArray, List.set_cons_zero, List.set_cons_succ]
      unfold Oper.wpIn
      refine ⟨fun _ _ => trivial, ?_⟩
      go_simp
      refine hK _ _ ?_
      clear hK K
      refine wpAnyIn_take (i := 5) (v := .agg #[.int .i64 p.fl, .int .i64 p.se, .int .i64 p.sq, .int .i64 p.gr, .slice ap p.la.length pc, .string X]) rfl rfl (by kernel_rfl) (by kernel_rfl) (by kernel_rfl) (fun _ _ _ h => h) ⟨Or.inl ⟨by rfl, fun w => by go_simp⟩, fun w => by rfl⟩ ?_
      simp only [Act.put, List.getElem_toArray, List.getElem_cons_succ, List.getElem_cons_zero, List.setIfInBounds_toArray, List.set_cons_zero, List.set_cons_succ]
      refine wpAnyIn_ready (rs := [6]) (by kernel_rfl) (by simp) ?_
      refine AllReadyIn.cons rfl (fun K hK => ?_) AllReadyIn.nil
      rw [if_pos (by rfl)]
      simp only [Act.put, List.getElem_toArray, List.getElem_cons_succ, List.getElem_cons_zero, List.setIfInBounds_toArray, List.set_cons_zero, List.set_cons_succ]
      unfold Oper.wpIn
      refine ⟨fun _ _ => trivial, ?_⟩
      go_simp
      refine ⟨rfl, hR.mono ?_⟩
      rintro e W3 (⟨rfl, hJ3, hb3⟩ | ⟨rfl, hx3⟩)
      · have H3 : Hid (J (pre ++ [(((⟨p, X⟩, ap, pc), 0) : SE)]) W3 ∧ Below wA.heap.size W W3) := ⟨hJ3, HWW.out.trans hb3⟩
        refine hK _ _ ?_
        clear hK K hJ3 hb3 hR hy z0 z1 z2 z3 z4
        refine wpAnyIn_take (i := 7) (v := .bool false) rfl rfl (by kernel_rfl) (by kernel_rfl) (by kernel_rfl) (fun _ _ _ h => h) ⟨Or.inl ⟨by rfl, fun w => by go_simp⟩, fun w => by rfl⟩ ?_
        simp only [Act.put, List.getElem_toArray, List.getElem_cons_succ, List.getElem_cons_zero, List.setIfInBounds_toArray, List.set_cons_zero, List.set_cons_succ]
        refine wpAnyIn_done (by kernel_rfl) ?_ _
        gi_wp2
        go_roundw
        case rel => exact ⟨i + 1, r2, pre ++ [(((⟨p, X⟩, ap, pc), 0) : SE)], rfl, by go_num, by omega, by rw [List.length_append, List.length_singleton, HPI.out], hz2, HXT.out, HS2.out, H3.out.1, H3.out.2⟩
        case measure => simp [intOf]; omega
      · have H3 := hid hx3
        refine hK _ _ ?_
        clear hK K hx3 hR hy z0 z1 z2 z3 z4
        refine wpAnyIn_take (i := 7) (v := .bool true) rfl rfl (by kernel_rfl) (by kernel_rfl) (by kernel_rfl) (fun _ _ _ h => h) ⟨Or.inl ⟨by rfl, fun w => by go_simp⟩, fun w => by rfl⟩ ?_
        simp only [Act.put, List.getElem_toArray, List.getElem_cons_succ, List.getElem_cons_zero, List.setIfInBounds_toArray, List.set_cons_zero, List.set_cons_succ]
        refine wpAnyIn_done (by kernel_rfl) ?_ _
        gi_wp2
        refine bodyPost_ret (results_none rfl _ _ _) rfl ?_
        exact ⟨⟨_, rfl⟩, Or.inr ⟨_, by rw [HXT.out]; exact List.prefix_append _ _, H3.out⟩⟩
    · have H3 : Hid (plL pre = ofL l T) := by
        show _ = _
        rw [HQ.out, List.drop_of_length_le (by omega), ofL, List.append_nil]
      gi_wp2
      go_end0
      exact ⟨⟨_, rfl⟩, Or.inl ⟨_, H3.out, HR.out.1⟩⟩
set_option maxRecDepth 20000 in
set_option maxHeartbeats 1600000 in
theorem j_sheetsOf (a : Option Addr) (n c : Nat) (T : ByteArray) (w : World) : Calls Tryd.prog 28 #[.slice a n c, .string T] w fun e w' => e = .returned (.func (.func 45) #[] #[.pointer (some ⟨w.heap.size + 1, 0, none⟩), .pointer (some ⟨w.heap.size, 0, none⟩)]) ∧ w' = (w.alloc (.cells #[.slice a n c] 22)).alloc (.cells #[.string T] 9) := by
  go_enter Tryd.func28, Tryd.ntmps28
  go_wp2
  go_ret
  exact ⟨rfl, rfl⟩

end Go.Proofs.YtjkamannjgcmiaaDoor
