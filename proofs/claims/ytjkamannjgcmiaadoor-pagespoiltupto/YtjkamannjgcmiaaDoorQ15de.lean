/- Own text: the walk of dealt. -/
import Derived.Test.YtjkamannjgcmiaaDoorG29x
namespace Go.Proofs.YtjkamannjgcmiaaDoor
open Go.RowKit
set_option linter.unusedSimpArgs false
set_option linter.unusedVariables false

attribute [local go_sem] Oper.semAt_some
theorem wpIn_append_row {F : Fence} {fn : Nat} {P : Program} (w : World) {ops : Array Oper} {rest : List Oper} {o : Oper} {a : Act} {Q : Exit → Act → World → Prop} (hgd : o.guard = none) (s x : Operand) (t : TypeId)
    (ho : o.op = .call { callee := .builtin .append, args := #[s, x], argTypes := #[t, t] })
    (base : Nat) (e : TypeId) (i : TypeInfo) (z : Value) (size bytes : Nat) (ht : P.underlying t = some (.slice e)) (hi : P.info? e = some i) (hz : i.zero = some z) (hsize : i.size = size) (hby : i.bytes = bytes) (hzs : z.cells.size = size) (hsz : 0 < size)
    (v : Value) (n : Nat) (xs : List Value) (hs : a.eval s = v) (hown : w.ownsRow base e size v n xs)
    (ad : Addr) (m c : Nat) (news : List Value) (hx : a.eval x = .slice (some ad) m c) (hl : news.length = m * size) (hnews : ∀ j u, news[j]? = some u → w.cell? (ad.add j) = some u) (h1 : ∀ u ∈ news, u.oneCell' = true)
    (h63 : n + m ≤ maxLen) (hbytes : (n + m) * bytes ≤ 140737488355328) (hbase : base ≤ w.heap.size)
    (h : ∀ v' w', Hid (w'.ownsRow base e size v' (n + m) (xs ++ news)) → Hid (w.grownBy w' v.ownBlock) → Hid (v'.ownBlock = v.ownBlock ∨ v'.ownBlock = some w.heap.size) → wpListIn F fn P ops Q rest (a.put o.dst v') w') : wpListIn F fn P ops Q (o :: rest) a w := by
  refine wpListIn_plain hgd fun K hK => ?_
  obtain ⟨v', w', hrun, r1, r2, _, r4⟩ := run_append_own_at (P := P) w base t o.type e i z size bytes ht hi hz hsize hby hzs hsz v n xs hown ad m c news hl hnews h1 h63 hbytes hbase
  unfold Oper.wpIn
  refine ⟨?_, ?_⟩
  · simp [Oper.about, ho, resolve, Target.leads, Sem.run_pure]
  · rw [Oper.semAt_plain F _ _ (by rw [ho]; intro c hc'; cases hc')]
    simp [execOp, ho, resolve, invoke, builtin, hs, hx, hrun, Result.andThen]
    exact hK _ _ (h v' w' r1 r2 r4)
def DI (B m : Nat) (pre : List Int) (W : World) : Prop := ∃ Q v5 P v6, DB B W m Q v5 P v6 ∧ pre.foldl (push1 m) ([], []) = (Q.map Prod.fst, P) ∧ P.length ≤ m ∧ Q.length ≤ pre.length ∧ (P = [] → v6 = noS)
def DX (pre : List Int) (W : World) : Prop := False
theorem dl_start (w : World) (m : Nat) (X : Obj) : DI w.heap.size m [] ((((w.alloc (.cells #[.int .i64 (m : Int)] 3)).alloc (.cells #[noS] 45)).alloc (.cells #[noS] 37)).alloc X) ∧ Below w.heap.size w ((((w.alloc (.cells #[.int .i64 (m : Int)] 3)).alloc (.cells #[noS] 45)).alloc (.cells #[noS] 37)).alloc X) := by
  have k : ∀ {g : Nat} {C : Array Value} {T : TypeId} {V : World} (O : Obj), Box V g C T → Box (V.alloc O) g C T := fun O h => h.keep (below_new _ _)
  have n : ∀ {V : World} (O : Obj), Below w.heap.size w V → Below w.heap.size w (V.alloc O) := fun O h => below_on h h.size (below_new _ _)
  refine ⟨⟨[], noS, [], noS, ⟨k _ (k _ (k _ (Box.new _ _ _))), ?_, ?_, DL.nil _ _⟩, rfl, Nat.zero_le _, Nat.le_refl _, fun _ => rfl⟩, n _ (n _ (n _ (below_new _ _)))⟩
  · have := Box.new (w.alloc (.cells #[.int .i64 (m : Int)] 3)) #[noS] 45
    rw [World.size_alloc] at this
    exact k _ (k _ this)
  · have := Box.new ((w.alloc (.cells #[.int .i64 (m : Int)] 3)).alloc (.cells #[noS] 45)) #[noS] 37
    rw [World.size_alloc, World.size_alloc] at this
    exact k _ this
theorem len_lcs (n : Nat) (h : n ≤ 70000) : (lcs n).length ≤ 275 := by
  unfold lcs
  rw [List.length_append, List.length_replicate, List.length_singleton]
  omega
theorem len_lfL : ∀ (l : List Int), (∀ x ∈ l, x ≤ 70000) → (lfL l).length ≤ 275 * l.length
  | [], _ => Nat.le_refl _
  | x :: t, h => by
    have h1 := len_lcs x.toNat (by have := h x (by simp); omega)
    have h2 := len_lfL t (fun y hy => h y (by simp [hy]))
    have e : lfL (x :: t) = lcs x.toNat ++ lfL t := by unfold lfL szN; rw [List.map_cons, List.flatMap_cons]
    rw [e, List.length_append, List.length_cons]
    omega
/-- What dealt tells. -/
def DeP (w : World) (m : Nat) (l : List Int) (e : Ending) (w' : World) : Prop := ∃ v Q, e = .returned v ∧ w'.ownsRow w.heap.size 37 1 v Q.length (lcsC Q) ∧ (∀ q ∈ Q, LsAt w' q v noS) ∧ Q.map Prod.fst = dlP m (lfL l) ∧ Q.length ≤ 50000 ∧ Below w.heap.size w w' ∧ ∀ q ∈ Q, ∀ b, blockOf q.2.1 = some b → w.heap.size ≤ b
theorem infoR5 : (Tryd.prog.info? 37).map (fun i => (i.zero, i.size, i.bytes)) = some (some (.slice none 0 0), 1, 24) := infoR
set_option maxRecDepth 20000 in
set_option maxHeartbeats 3200000 in
theorem j_dealt (l : List Int) (a : Option Addr) (c m : Nat) (hm : 1 ≤ m) (hm2 : m ≤ 255) (w : World) (hl : IntsAt w a l) (hn : l.length ≤ 60) (hz : ∀ x ∈ l, x ≤ 70000) : Calls Tryd.prog 33 #[.slice a l.length c, .int .i64 (m : Int)] w fun e w' => DeP w m l e w' := by
  have HS0 := hid (dl_start w m)
  have HG : Hid (∀ w0 g, Below w.heap.size w w0 → Box w0 g #[.slice a l.length c] 37 → Goes Tryd.prog 70 #[.pointer (some ⟨g, 0, none⟩)] (fun x : Int => #[Value.int .i64 x]) (fun x _ _ => 0 ≤ x ∧ x ≤ 255) w.heap.size (fun xs => xs = lfL l) (fun pre => pre <+: lfL l) (lfL l).length w0) := fun w0 g hA hb => j_lacesFor1 l a c w w0 hl hA g hb
  obtain ⟨iI, hI0, hI1, hI2, hI3⟩ := info_parts5 info3
  have HII : Hid (Tryd.prog.info? 3 = some iI ∧ iI.zero = some (.int .i64 0) ∧ iI.size = 1 ∧ iI.bytes = 8) := ⟨hI0, hI1, hI2, hI3⟩
  obtain ⟨iR, hR0, hR1, hR2, hR3⟩ := info_parts5 infoR5
  have HIR : Hid (Tryd.prog.info? 37 = some iR ∧ iR.zero = some (.slice none 0 0) ∧ iR.size = 1 ∧ iR.bytes = 24) := ⟨hR0, hR1, hR2, hR3⟩
  have HLL : Hid ((lfL l).length ≤ 16500) := by have := len_lfL l hz; show _ ≤ _; omega
  clear hI0 hI1 hI2 hI3 hR0 hR1 hR2 hR3 hl hz
  refine (callsIn_wide (n := 0)).1 (callsIn_of_wp_marks Tryd.func33 rfl trivial ?_ rfl)
  simp only [Tryd.ntmps33, List.size_toArray, List.length_cons, List.length_nil, Nat.reduceAdd, Nat.reduceSub, Array.replicate_succ, Array.replicate_zero, List.push_toArray, List.append_toArray, List.nil_append, List.cons_append]
  gi_wp2_with fail
  refine ⟨trivial, rfl, (callsIn_wide.2 (j_lacesFor _ _ _ _)).mono ?_⟩
  rintro e w' ⟨rfl, rfl⟩
  gi_wp2_with fail
  have hS := HS0.out (.cells #[.slice a l.length c] 37)
  have hG := HG.out _ (w.heap.size + 1 + 1 + 1) hS.2 ⟨by
    have := heap_alloc_new (((w.alloc (.cells #[.int .i64 (m : Int)] 3)).alloc (.cells #[noS] 45)).alloc (.cells #[noS] 37)) (.cells #[.slice a l.length c] 37)
    rwa [World.size_alloc, World.size_alloc, World.size_alloc] at this⟩
  generalize (((w.alloc (.cells #[.int .i64 (m : Int)] 3)).alloc (.cells #[noS] 45)).alloc (.cells #[noS] 37)).alloc (.cells #[.slice a l.length c] 37) = Wc at *
  have HWC := hid hS.2
  have hS1 := hS.1
  clear hS HS0 HG
  refine range_goes (gf := 70) (lb := #[.pointer (some ⟨w.heap.size + 1 + 1 + 1, 0, none⟩)]) rfl (enters_of Tryd.func70 (by kernel_rfl) rfl) hG (Below.refl _ _) HWC.out.size (fun _ => rfl)
    (DI w.heap.size m) DX
    (fun s A B h k => by obtain ⟨Q, v5, P, v6, h1, h2⟩ := h; exact ⟨Q, v5, P, v6, h1.ck k, h2⟩)
    (fun s A B h k => h.elim) hS1 ?round ?done ?stop
  case round =>
    rintro lp pre x W0 W K ⟨Q, v5, P, v6, hs, hst, hpm, hql, hpn⟩ hbb hx hB hN hK
    replace hs := hs.ck (Ck.of hbb)
    clear hbb
    have HK := hid hK
    clear hG hS1 hK
    gi_wp2
    refine HK.out _ _ (Below.refl _ _) fun W2 hck => ?_
    have HS := hid (hs.ck hck)
    have hQb := HLL.out
    have HQL : Hid (Q.length ≤ 16500) := by show _ ≤ _; omega
    have HST := hid hst
    obtain ⟨y, rfl⟩ : ∃ y : Nat, x = (y : Int) := ⟨x.toNat, by omega⟩
    have HY : Hid (y ≤ 255) := by show _ ≤ _; omega
    obtain ⟨ao, co, ev⟩ := owns_sl HS.out.d.own5
    subst ev
    obtain ⟨ap, cp, ev⟩ := owns_sl HS.out.d.own6
    subst ev
    have e0 := HS.out.b0.c 0 _ rfl
    have e1 := HS.out.b1.c 0 _ rfl
    have e2 := HS.out.b2.c 0 _ rfl
    have f1 := HS.out.b1.fz 0
    have f2 := HS.out.b2.fz 0
    have HQ1 : Hid (Q.length ≤ pre.length) := hql
    clear hs hck HK hB hst hql hpn hx hN hQb
    by_cases hf : P.length = m
    · have hb : ((P.length : Int) == (m : Int)) = true := by rw [beq_iff_eq]; omega
      have HF := hid hf
      clear hf
      gi_wp2_with (first | (gi_at_builtin; refine wpIn_append_row _ rfl (.tmp 15) (.tmp 17) 45 rfl (w.heap.size + 3) 37 iR (.slice none 0 0) 1 24 Tryd.underlying45 HIR.out.1 HIR.out.2.1 HIR.out.2.2.1 HIR.out.2.2.2 rfl (by decide) (.slice ao Q.length co) Q.length _ rfl (owns_below HS.out.d.own5 (below_new _ _)) ⟨W2.heap.size, 0, none⟩ 1 1 [.slice ap P.length cp] rfl rfl (one_new W2 (.slice ap P.length cp) 37) (by simp [Value.oneCell']) (by simp only [maxLen]; have := HQL.out; omega) (by have := HQL.out; omega) (by rw [World.size_alloc]; exact Nat.le_succ_of_le HS.out.lt) ?_; intro v7 w7 ho7 hg7 hx7; have HX7 := hid ((HS.out.ck (Ck.of (below_new _ (.cells #[.slice ap P.length cp] 37)))).push5 (by omega) ho7.out hg7.out hx7.out); have HK7 := hid (keeps_row (owns_below HS.out.d.own5 (below_new _ _)) hg7.out); have HG7 := hid hg7.out; obtain ⟨a7, c7, e7⟩ := owns_sl ho7.out; subst e7; have HNW := hid (show ∀ j u, [Value.int .i64 (y : Int)][j]? = some u → (((w7.setCell ⟨w.heap.size + 1, 0, none⟩ (.slice a7 (Q.length + 1) c7)).setCell ⟨w.heap.size + 1 + 1, 0, none⟩ noS).alloc (.cells #[.int .i64 (y : Int)] 3)).cell? ((⟨w7.heap.size, 0, none⟩ : Addr).add j) = some u from (by have h := one_new ((w7.setCell ⟨w.heap.size + 1, 0, none⟩ (.slice a7 (Q.length + 1) c7)).setCell ⟨w.heap.size + 1 + 1, 0, none⟩ noS) (.int .i64 (y : Int)) 3; rwa [show ((w7.setCell ⟨w.heap.size + 1, 0, none⟩ (.slice a7 (Q.length + 1) c7)).setCell ⟨w.heap.size + 1 + 1, 0, none⟩ noS).heap.size = w7.heap.size from (by simp [World.setCell])] at h)); have g71 := HX7.out.2.1.c 0 _ rfl; have f71 := HX7.out.2.1.fz 0; have g72 := HX7.out.2.2.1.c 0 _ rfl; have f72 := HX7.out.2.2.1.fz 0; have g73 := HX7.out.1.b2.c 0 _ rfl; have f73 := HX7.out.1.b2.fz 0; clear ho7 hg7 hx7 e1 f1) | (gi_at_builtin; refine wpIn_append_row _ rfl (.tmp 19) (.tmp 21) 37 rfl (w.heap.size + 3) 3 iI (.int .i64 0) 1 8 Tryd.underlying37 HII.out.1 HII.out.2.1 HII.out.2.2.1 HII.out.2.2.2 rfl (by decide) noS 0 _ rfl (owns_below HX7.out.1.d.own6 (below_new _ _)) ⟨w7.heap.size, 0, none⟩ 1 1 [.int .i64 (y : Int)] rfl rfl HNW.out (by simp [Value.oneCell']) (by simp only [maxLen]; omega) (by omega) (by rw [World.size_alloc]; exact Nat.le_succ_of_le HX7.out.1.lt) ?_; intro v8 w8 ho8 hg8 hx8; have HX8 := hid ((HX7.out.1.ck (Ck.of (below_new _ (.cells #[.int .i64 (y : Int)] 3)))).push6 (x := y) HY.out ho8.out hg8.out hx8.out); have HK8 := hid (keeps_row (owns_below HX7.out.1.d.own6 (below_new _ _)) hg8.out); have HG8 := hid hg8.out; obtain ⟨a8, c8, e8⟩ := owns_sl ho8.out; subst e8; have g82 := HX8.out.2.c 0 _ rfl; have f82 := HX8.out.2.fz 0; clear ho8 hg8 hx8))
      refine ⟨((KeepsOthers.alloc _ _).trans HK7.out).trans (((KeepsOthers.setCell _ _ _).trans (KeepsOthers.setCell _ _ _)).trans (((KeepsOthers.alloc _ _).trans HK8.out).trans (KeepsOthers.setCell _ _ _))), ?_, ?_⟩
      · have hb7 : Below w.heap.size W2 w7 := grown_to HG7.out ((Below.refl _ _).alloc (by have := HS.out.lt; omega) _) (by rw [World.size_alloc]; have := HS.out.lt; omega) (fun k e => by have := HS.out.blk5 k e; omega)
        have hb7' : Below w.heap.size W2 ((w7.setCell ⟨w.heap.size + 1, 0, none⟩ (.slice a7 (Q.length + 1) c7)).setCell ⟨w.heap.size + 1 + 1, 0, none⟩ noS) := (hb7.setCell (p := ⟨w.heap.size + 1, 0, none⟩) (by show w.heap.size ≤ w.heap.size + 1; omega) _).setCell (p := ⟨w.heap.size + 1 + 1, 0, none⟩) (by show w.heap.size ≤ w.heap.size + 1 + 1; omega) _
        refine Below.setCell (p := ⟨w.heap.size + 1 + 1, 0, none⟩) (grown_to HG8.out (hb7'.alloc (Nat.le_trans (Nat.le_add_right _ 3) HX7.out.1.lt) _) (by rw [World.size_alloc]; exact Nat.le_succ_of_le (Nat.le_trans (Nat.le_add_right _ 3) HX7.out.1.lt)) (fun k e => by cases e)) (by show w.heap.size ≤ w.heap.size + 1 + 1; omega) _
      · refine ⟨_, _, _, _, HX8.out.1, ?_, by rw [List.length_append, List.length_singleton]; simp; omega, by rw [List.length_append, List.length_append, List.length_singleton, List.length_singleton]; have := HQ1.out; omega, fun h => absurd h (by simp)⟩
        rw [List.foldl_append, HST.out, List.map_append]
        show push1 m _ _ = _
        unfold push1
        rw [if_pos HF.out]
        rfl
    · have hb : ((P.length : Int) == (m : Int)) = false := by rw [beq_eq_false_iff_ne]; omega
      have HF := hid hf
      clear hf
      gi_wp2_with (gi_at_builtin; refine wpIn_append_row _ rfl (.tmp 19) (.tmp 21) 37 rfl (w.heap.size + 3) 3 iI (.int .i64 0) 1 8 Tryd.underlying37 HII.out.1 HII.out.2.1 HII.out.2.2.1 HII.out.2.2.2 rfl (by decide) (.slice ap P.length cp) P.length _ rfl (owns_below HS.out.d.own6 (below_new _ _)) ⟨W2.heap.size, 0, none⟩ 1 1 [.int .i64 (y : Int)] rfl rfl (one_new W2 (.int .i64 (y : Int)) 3) (by simp [Value.oneCell']) (by simp only [maxLen]; omega) (by omega) (by rw [World.size_alloc]; exact Nat.le_succ_of_le HS.out.lt) ?_; intro v8 w8 ho8 hg8 hx8; have HX8 := hid ((HS.out.ck (Ck.of (below_new _ (.cells #[.int .i64 (y : Int)] 3)))).push6 (x := y) HY.out ho8.out hg8.out hx8.out); have HK8 := hid (keeps_row (owns_below HS.out.d.own6 (below_new _ _)) hg8.out); have HG8 := hid hg8.out; obtain ⟨a8, c8, e8⟩ := owns_sl ho8.out; subst e8; have g82 := HX8.out.2.c 0 _ rfl; have f82 := HX8.out.2.fz 0; clear ho8 hg8 hx8 e2 f2)
      refine ⟨((KeepsOthers.alloc _ _).trans HK8.out).trans (KeepsOthers.setCell _ _ _), ?_, ?_⟩
      · refine Below.setCell (p := ⟨w.heap.size + 1 + 1, 0, none⟩) (grown_to HG8.out ((Below.refl _ _).alloc (by have := HS.out.lt; omega) _) (by rw [World.size_alloc]; have := HS.out.lt; omega) (fun k e => by have := HS.out.blk6 k e; omega)) (by show w.heap.size ≤ w.heap.size + 1 + 1; omega) _
      · refine ⟨_, _, _, _, HX8.out.1, ?_, by rw [List.length_append, List.length_singleton]; have := HF.out; omega, by rw [List.length_append, List.length_singleton]; have := HQ1.out; omega, fun h => absurd h (by simp)⟩
        rw [List.foldl_append, HST.out]
        show push1 m _ _ = _
        unfold push1
        rw [if_neg HF.out]
  case done =>
    rintro D xs W hD rfl ⟨Q, v5, P, v6, hs, hst, hpm, hql, hpn⟩ hB hdef
    have HB := hid (HWC.out.trans hB)
    have HD := hid hdef
    have HS := hid hs
    have HST : Hid (dlP m (lfL l) = finD (Q.map Prod.fst, P)) := by
      show _ = _
      unfold dlP
      rw [hst]
    have HQL : Hid (Q.length ≤ 16500) := by have := HLL.out; show _ ≤ _; omega
    have HDD : Hid (w.heap.size ≤ D) := by have := HWC.out.size; show _ ≤ _; omega
    obtain ⟨ao, co, ev⟩ := owns_sl HS.out.d.own5
    subst ev
    have e1 := HS.out.b1.c 0 _ rfl
    have f1 := HS.out.b1.fz 0
    have e2 := HS.out.b2.c 0 _ rfl
    clear hs hst hql hB hdef hS1 hG
    by_cases hP : P = []
    · have hv := hpn hP
      subst hP hv
      gi_wp2
      have hck := Ck.put (.deferred none) HD.out rfl
      refine ⟨by simp, .inl ⟨_, _, rfl, run_takeDeferred HD.out, ?_⟩⟩
      refine ⟨_, results_tmp rfl _ _ _, .slice ao Q.length co, Q, rfl, hck.owns (owns_base HS.out.d.own5 (by omega)), fun q hq => (HS.out.d.lac q hq).ck hck, ?_, by have := HQL.out; omega, below_put HB.out HDD.out _, fun q hq b hb => by have := HS.out.d.lo q hq b hb; omega⟩
      rw [HST.out]
      rfl
    · obtain ⟨pg, cp, ev⟩ := owns_some HS.out.d.own6 (List.length_pos_iff.2 hP)
      subst ev
      · have HPN := hid hP
        clear hpn hP
        gi_wp2_with (gi_at_builtin; refine wpIn_append_row _ rfl (.tmp 25) (.tmp 27) 45 rfl (w.heap.size + 3) 37 iR (.slice none 0 0) 1 24 Tryd.underlying45 HIR.out.1 HIR.out.2.1 HIR.out.2.2.1 HIR.out.2.2.2 rfl (by decide) (.slice ao Q.length co) Q.length _ rfl (owns_below HS.out.d.own5 (below_new _ _)) ⟨W.heap.size, 0, none⟩ 1 1 [.slice (some ⟨pg, 0, none⟩) P.length cp] rfl rfl (one_new W (.slice (some ⟨pg, 0, none⟩) P.length cp) 37) (by simp [Value.oneCell']) (by simp only [maxLen]; have := HQL.out; omega) (by have := HQL.out; omega) (by rw [World.size_alloc]; exact Nat.le_succ_of_le HS.out.lt) ?_; intro v7 w7 ho7 hg7 hx7; have HX7 := hid ((HS.out.ck (Ck.of (below_new _ (.cells #[.slice (some ⟨pg, 0, none⟩) P.length cp] 37)))).push5 (by omega) ho7.out hg7.out hx7.out); have HK7 := hid (keeps_row (owns_below HS.out.d.own5 (below_new _ _)) hg7.out); have HG7 := hid hg7.out; obtain ⟨a7, c7, e7⟩ := owns_sl ho7.out; subst e7; have g71 := HX7.out.2.1.c 0 _ rfl; have f71 := HX7.out.2.1.fz 0; have g73 := HX7.out.2.2.2.2.c 0 _ rfl; clear ho7 hg7 hx7 e1 f1)
        have hd2 := (((KeepsOthers.alloc W (.cells #[.slice (some ⟨pg, 0, none⟩) P.length cp] 37)).trans HK7.out).trans (KeepsOthers.setCell w7 ⟨w.heap.size + 1, 0, none⟩ (.slice a7 (Q.length + 1) c7))).same D _ HD.out rfl
        have hck := Ck.put (.deferred none) hd2 rfl
        have hdl := HX7.out.2.2.2.1
        refine ⟨by simp, .inl ⟨_, _, rfl, run_takeDeferred hd2, ?_⟩⟩
        refine ⟨_, results_tmp rfl _ _ _, _, Q ++ [(P, some ⟨pg, 0, none⟩, cp)], rfl, ?_, fun q hq => (hdl.lac q hq).ck hck, ?_, by rw [List.length_append, List.length_singleton]; have := HQL.out; omega, below_put ?_ HDD.out _, fun q hq b hb => by have := hdl.lo q hq b hb; omega⟩
        · exact hck.owns (owns_base hdl.own5 (by omega))
        · rw [HST.out, List.map_append]
          unfold finD
          rw [if_neg HPN.out]
          rfl
        · exact Below.setCell (p := ⟨w.heap.size + 1, 0, none⟩) (grown_to HG7.out (HB.out.alloc (by have := HS.out.lt; omega) _) (by rw [World.size_alloc]; have := HS.out.lt; omega) (fun k e => by have := HS.out.blk5 k e; omega)) (by show w.heap.size ≤ w.heap.size + 1; omega) _
  case stop =>
    rintro D pre W hD hp h
    exact h.elim

end Go.Proofs.YtjkamannjgcmiaaDoor
