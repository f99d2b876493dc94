/- Own text: the walk of isWhole. the walk of collect. -/
import Derived.Test.YtjkamannjgcmiaaDoorG30x
import Derived.Test.YtjkamannjgcmiaaDoorQ15tk
namespace Go.Proofs.YtjkamannjgcmiaaDoor
open Go.RowKit
set_option linter.unusedSimpArgs false
set_option linter.unusedVariables false

theorem sh_cells {B q : Nat} {W : World} {L : List SP} {g cv n : Nat} {op : Bool} (h : RW B q W L (.slice (some ⟨g, 0, none⟩) n cv) op) (i : Nat) (z : SP) (hz : L[i]? = some z) : ∀ wx, Below W.heap.size W wx → ∀ j u, (shC z.1 z.2.1 z.2.2)[j]? = some u → wx.cell? ⟨g, i * 6 + j, none⟩ = some u := by
  intro wx hb j u hj
  have ho := (h.low hb).own
  have hl := (List.getElem?_eq_some_iff.1 hz).1
  have hj6 : j < 6 := (List.getElem?_eq_some_iff.1 hj).1
  have hnn : n = L.length := by
    obtain ⟨a, c, e⟩ := owns_sl ho
    injection e
  subst hnn
  rw [ho.cellAt (i * 6 + j) (by omega)]
  exact shsC_at L i z hz j u hj
set_option maxRecDepth 20000 in
set_option maxHeartbeats 3200000 in
theorem j_isWhole (B q : Nat) (W : World) (L : List SP) (v : Value) (op : Bool) (h : RW B q W L v op) (hm : ∀ y ∈ L, 0 ≤ y.1.p.fl ∧ y.1.p.fl ≤ 7) (hn : L.length ≤ 65536) : Calls Tryd.prog 35 #[.pointer (some ⟨q, 0, none⟩)] W fun e w' => e = .returned (.bool (whB (pgsOf L) op)) ∧ Below W.heap.size W w' := by
  obtain ⟨av, cv, ev⟩ := owns_sl h.own
  subst ev
  have HR := hid h
  have HM := hid hm
  obtain ⟨n, hnn⟩ : ∃ n, n = L.length := ⟨_, rfl⟩
  have HN := hid hnn
  rw [← hnn] at HR hn
  obtain ⟨lst, hl⟩ : ∃ lst, (n : Int) - 1 = lst := ⟨_, rfl⟩
  have HL := hid hl
  have r0 := HR.out.bx.c 0 _ rfl
  obtain ⟨wb, hwb⟩ : ∃ wb, wb = whB (pgsOf L) op := ⟨_, rfl⟩
  have HWB := hid hwb
  rw [← hwb]
  clear h hm hnn hwb
  go_enter Tryd.func35, Tryd.ntmps35
  go_wp2_with fail
  clear hl
  go_loopw [17] (fun t wr => ∃ i : Nat, i ≤ n ∧ t = .int .i64 (i : Int) ∧ Below W.heap.size W wr ∧ ∀ j y, j < i → L[j]? = some y → (y.1.p.fl / 4 % 2 = 1 ↔ j + 1 = n)) (fun t _ => n - (intOf t).toNat)
  case atStart => exact ⟨0, Nat.zero_le _, rfl, Below.refl _ _, fun j y hj => absurd hj (Nat.not_lt_zero _)⟩
  case round =>
    obtain ⟨i, hi, rfl, hb, hall⟩ := hrel
    have HB := hid hb
    have HA := hid hall
    clear hb hall r0
    by_cases hlt : i < n
    · obtain ⟨z, hz⟩ : ∃ z, L[i]? = some z := ⟨_, List.getElem?_eq_getElem (by rw [← HN.out]; exact hlt)⟩
      have HZ := hid hz
      have HFL := hid (HM.out z (List.mem_of_getElem? hz))
      obtain ⟨gv, cv2, ev⟩ := owns_some HR.out.own (by rw [← HN.out]; omega)
      injection ev with ev1 ev2 ev3
      subst ev1
      have hc := sh_cells HR.out i z hz wr HB.out
      obtain ⟨⟨⟨fl, se, sq, gr, la⟩, bd⟩, ao, c⟩ := z
      dsimp only at *
      have c0 : wr.cell? ⟨gv, i * 6, none⟩ = some (.int .i64 fl) := hc 0 _ rfl
      have c1 := hc 1 _ rfl
      have c2 := hc 2 _ rfl
      have c3 := hc 3 _ rfl
      have c4 := hc 4 _ rfl
      have c5 := hc 5 _ rfl
      obtain ⟨bb, hbb⟩ : ∃ bb, decide (fl / ((4 : Nat) : Int) % 2 = 1) = bb := ⟨_, rfl⟩
      have HBB : Hid (bb = true ↔ fl / 4 % 2 = 1) := by
        show _ ↔ _
        rw [← hbb, decide_eq_true_iff]
        exact Iff.rfl
      have kh := fun wx => j_has ⟨⟨fl, se, sq, gr, la⟩, bd⟩ ao c 4 (by decide) HFL.out.1 HFL.out.2 wx
      rw [hbb] at kh
      obtain ⟨eb, heb⟩ : ∃ eb, ((i : Int) == lst) = eb := ⟨_, rfl⟩
      have HEB : Hid (eb = true ↔ i + 1 = n) := by
        show _ ↔ _
        rw [← heb, beq_iff_eq, ← HL.out]
        omega
      have KH := hid kh
      clear hc hz hbb ev2 ev3 kh
      go_wp2_with fail
      refine (KH.out _).mono ?_
      rintro e w2 ⟨rfl, hb2⟩
      have HB2 : Hid (Below W.heap.size W w2) := below_on (below_on HB.out HB.out.size (below_new wr (.cells #[.int .i64 fl, .int .i64 se, .int .i64 sq, .int .i64 gr, .slice ao la.length c, .string bd] 74))) (by have := HB.out.size; simp; omega) hb2
      clear hb2 c0 c1 c2 c3 c4 c5
      by_cases hbe : bb = eb
      · have HI : Hid (fl / 4 % 2 = 1 ↔ i + 1 = n) := by
          show _ ↔ _
          rw [← HBB.out, ← HEB.out, hbe]
        subst hbe
        go_wp2_with fail
        go_roundw
        case rel =>
          refine ⟨i + 1, by omega, by go_num, HB2.out, fun j y hj hy => ?_⟩
          rcases Nat.lt_or_ge j i with h | h
          · exact HA.out j y h hy
          · obtain rfl : j = i := by omega
            rw [HZ.out] at hy
            injection hy with hy
            subst hy
            exact HI.out
        case measure => simp [intOf]; omega
      · have HF : Hid (wb = false) := by
          show _ = _
          rw [HWB.out]
          unfold whB
          have : lasB (pgsOf L) = false := by
            cases hq : lasB (pgsOf L)
            · rfl
            · have h1 := (las_iff _).1 hq i ⟨fl, se, sq, gr, la⟩ (by unfold pgsOf; rw [List.getElem?_map, HZ.out]; rfl)
              rw [pgsOf_len, ← HN.out] at h1
              have h1 : fl / 4 % 2 = 1 ↔ i + 1 = n := h1
              rw [← HBB.out, ← HEB.out] at h1
              exact absurd (by cases bb <;> cases eb <;> simp_all) hbe
          rw [this]
          rfl
        obtain rfl : bb = !eb := by cases bb <;> cases eb <;> simp_all
        clear hbe
        go_wp2_with fail
        go_ret
        exact ⟨by rw [HF.out]; rfl, HB2.out⟩
    · obtain rfl : i = n := by omega
      have HLA : Hid (lasB (pgsOf L) = true) := (las_iff _).2 (fun j p hp => by
        have hj := (List.getElem?_eq_some_iff.1 hp).1
        rw [pgsOf_len] at hj
        unfold pgsOf at hp
        rw [List.getElem?_map] at hp
        obtain ⟨y, hy⟩ : ∃ y, L[j]? = some y := ⟨_, List.getElem?_eq_getElem hj⟩
        rw [hy] at hp
        injection hp with hp
        subst hp
        rw [pgsOf_len, ← HN.out]
        exact HA.out j y (by rw [HN.out]; exact hj) hy)
      have r1 := (HR.out.low HB.out).bx.c 1 _ rfl
      by_cases h0 : i = 0
      · have hd : decide ((0 : Int) ≤ lst) = false := decide_eq_false (by have := HL.out; omega)
        have hd2 : lst < 0 := by have := HL.out; omega
        have HF : Hid (wb = false) := by
          show _ = _
          rw [HWB.out]
          unfold whB
          rw [List.length_eq_zero_iff.1 (show (pgsOf L).length = 0 from by rw [pgsOf_len, ← HN.out]; exact h0)]
          simp
        clear h0 hlt hi hn
        go_wp2_with fail
        go_ret
        exact ⟨by rw [HF.out]; rfl, HB.out⟩
      · have hd : (0 : Int) ≤ lst := by have := HL.out; omega
        have HF : Hid (wb = !op) := by
          show _ = _
          rw [HWB.out]
          unfold whB
          have hne : pgsOf L ≠ [] := fun k => h0 (by rw [HN.out, ← pgsOf_len, k]; rfl)
          rw [HLA.out]
          simp [hne]
        clear h0 hlt hi hn
        go_wp2_with fail
        go_ret
        exact ⟨by rw [HF.out]; rfl, HB.out⟩

end Go.Proofs.YtjkamannjgcmiaaDoor

namespace Go.Proofs.YtjkamannjgcmiaaDoor
open Go.RowKit
set_option linter.unusedSimpArgs false
set_option linter.unusedVariables false

attribute [local go_sem] Oper.semAt_some
/-- What a round is handed lies in memory. -/
def SQ (n0 : Nat) (x : SE) (W0 W1 : World) : Prop := PgAt W1 x.1.1.p x.1.2.1 x.1.2.2 ∧ (0 < x.1.1.p.la.length → ∀ b, blockOf x.1.2.1 = some b → b < W1.heap.size ∧ (b < n0 ∨ W0.heap.size ≤ b))
abbrev encS (x : SE) : Array Value := #[shV x.1.1 x.1.2.1 x.1.2.2, .int .i64 x.2]
def ShsAt (W : World) (v : Value) (L : List SP) : Prop := ∃ B, W.ownsRow B 74 6 v L.length (shsC L) ∧ ∀ y ∈ L, PgAt W y.1.p y.2.1 y.2.2
def ColP (X : List PE) (e : Ending) (w' : World) : Prop := ((runC X []).1 = 0 → ∃ v L, e = .returned (.tuple #[v, .int .i64 0]) ∧ ShsAt w' v L ∧ L.map Prod.fst = (runC X []).2 ∧ L.length ≤ 65536 ∧ OkC X) ∧ ((runC X []).1 ≠ 0 → e = .returned (.tuple #[noS, .int .i64 (runC X []).1]))
def LoS (b : Nat) (L : List SP) : Prop := ∀ y ∈ L, 0 < y.1.p.la.length → ∀ k, blockOf y.2.1 = some k → k ≠ b ∧ k ≠ b + 1
def CoI (b : Nat) (pre : List SE) (W : World) : Prop := ∃ v, RW (b + 1 + 1 + 1) (b + 1 + 1) W (pre.map Prod.fst) v (opF (plL pre)) ∧ Box W b #[noS] 53 ∧ Box W (b + 1) #[.int .i64 0] 24 ∧ OkC (plL pre) ∧ LoS b (pre.map Prod.fst)
def CoX (b : Nat) (pre : List SE) (W : World) : Prop := ∃ p x, pre = p ++ [x] ∧ OkC (plL p) ∧ colE (plL p) (plE x) ≠ 0 ∧ Box W b #[noS] 53 ∧ Box W (b + 1) #[.int .i64 (colE (plL p) (plE x))] 24
theorem pgs_pl (pre : List SE) : pgsOf (pre.map Prod.fst) = pgF (plL pre) := by
  unfold pgsOf pgF plL
  rw [List.map_map, List.map_map]
  rfl
theorem co_start (w : World) : CoI w.heap.size [] (((w.alloc (.cells #[noS] 53)).alloc (.cells #[.int .i64 0] 24)).alloc (.cells #[noS, .bool false] 72)) ∧ Below w.heap.size w (((w.alloc (.cells #[noS] 53)).alloc (.cells #[.int .i64 0] 24)).alloc (.cells #[noS, .bool false] 72)) := by
  have k : ∀ {g : Nat} {C : Array Value} {T : TypeId} {V : World} (O : Obj), Box V g C T → Box (V.alloc O) g C T := fun O h => h.keep (below_new _ _)
  have n : ∀ {V : World} (O : Obj), Below w.heap.size w V → Below w.heap.size w (V.alloc O) := fun O h => below_on h h.size (below_new _ _)
  refine ⟨⟨noS, ⟨?_, World.ownsRow_nil _ _ _ _, fun y hy => by simp at hy, by omega, by omega⟩, k _ (k _ (Box.new _ _ _)), ?_, OkC.nil, fun y hy => by simp at hy⟩, n _ (n _ (below_new _ _))⟩
  · have := Box.new ((w.alloc (.cells #[noS] 53)).alloc (.cells #[.int .i64 0] 24)) #[noS, .bool false] 72
    rw [World.size_alloc, World.size_alloc] at this
    exact this
  · have := Box.new (w.alloc (.cells #[noS] 53)) #[.int .i64 0] 24
    rw [World.size_alloc] at this
    exact k _ this
set_option maxRecDepth 20000 in
set_option maxHeartbeats 3200000 in
theorem j_collect (gf : Nat) (lb : Array Value) (X : List PE) (N : Nat) (w : World) (eg : ∀ args w, (callFunc gf args).run Tryd.prog w = .ok (.enter gf args) w)
    (hg : Goes Tryd.prog gf lb encS (SQ w.heap.size) w.heap.size (fun xs => plL xs = X) (fun pre => plL pre <+: X) N w) : Calls Tryd.prog 22 #[.func (.func gf) #[] lb] w fun e w' => ColP X e w' ∧ Below w.heap.size w w' := by
  have HG := hid hg
  have HEG := hid eg
  have HS0 := hid (co_start w)
  clear hg eg
  refine (callsIn_wide (n := 0)).1 (callsIn_of_wp_marks Tryd.func22 rfl trivial ?_ rfl)
  simp only [Tryd.ntmps22, List.size_toArray, List.length_cons, List.length_nil, Nat.reduceAdd, Nat.reduceSub, Array.replicate_succ, Array.replicate_zero, List.push_toArray, List.append_toArray, List.nil_append, List.cons_append]
  gi_wp2_with fail
  have hS1 := HS0.out.1
  have HWC := hid HS0.out.2
  clear HS0
  generalize ((w.alloc (.cells #[noS] 53)).alloc (.cells #[.int .i64 0] 24)).alloc (.cells #[noS, .bool false] 72) = Wc at *
  refine range_goes (gf := gf) (lb := lb) rfl HEG.out HG.out HWC.out HWC.out.size (fun _ => rfl) (CoI w.heap.size) (CoX w.heap.size)
    (fun s A B h k => by obtain ⟨v, h1, h2, h3, h4⟩ := h; exact ⟨v, h1.ck k, k.box h2, k.box h3, h4⟩)
    (fun s A B h k => by obtain ⟨p, x, h1, h2, h3, h4, h5⟩ := h; exact ⟨p, x, h1, h2, h3, k.box h4, k.box h5⟩)
    hS1 ?round ?done ?stop
  case round =>
    rintro lp pre x W0 W K ⟨v, hr, hb0, hb1, hok, hlo⟩ hbb hq hB hN hK
    have HLO : Hid (LoS w.heap.size ((pre ++ [x]).map Prod.fst)) := fun y hy h0 b hb => by
      rw [List.map_append] at hy
      rcases List.mem_append.1 hy with hy | hy
      · exact hlo y hy h0 b hb
      · rw [List.map_singleton, List.mem_singleton] at hy
        subst hy
        obtain ⟨h1, h2⟩ := hq.2 h0 b hb
        have := hr.bx.lt
        omega
    clear hlo
    have hsa : SAt (w.heap.size + 1 + 1) W x.1 v := ⟨hq.1, fun h0 b hb => by
      obtain ⟨h1, h2⟩ := hq.2 h0 b hb
      refine ⟨h1, fun e => ?_, fun e => ?_⟩
      · have := hr.blk b e
        have := hr.blk2 b e
        omega
      · have := hr.bx.lt
        omega⟩
    have HK := hid hK
    have HR := hid (show RW (w.heap.size + 1 + 1 + 1) (w.heap.size + 1 + 1) W (pre.map Prod.fst) v (opF (plL pre)) ∧ Box W w.heap.size #[noS] 53 ∧ Box W (w.heap.size + 1) #[.int .i64 0] 24 ∧ SAt (w.heap.size + 1 + 1) W x.1 v from ⟨hr.ck (Ck.of hbb), (Ck.of hbb).box hb0, (Ck.of hbb).box hb1, hsa⟩)
    have HOK := hid hok
    clear hS1 hK hr hb0 hb1 hok hbb hq hB hN hsa HG HEG
    gi_wp2
    refine HK.out _ _ (below_new _ _) fun W2 hck => ?_
    have hck2 := (Ck.of (below_new W (.cells #[.int .i64 x.1.1.p.fl, .int .i64 x.1.1.p.se, .int .i64 x.1.1.p.sq, .int .i64 x.1.1.p.gr, .slice x.1.2.1 x.1.1.p.la.length x.1.2.2, .string x.1.1.b] 74))).trans hck
    have HX : Hid (Box W2 W.heap.size #[.int .i64 x.1.1.p.fl, .int .i64 x.1.1.p.se, .int .i64 x.1.1.p.sq, .int .i64 x.1.1.p.gr, .slice x.1.2.1 x.1.1.p.la.length x.1.2.2, .string x.1.1.b] 74) := hck.box (Box.new _ _ _)
    have H2 := hid (show RW (w.heap.size + 1 + 1 + 1) (w.heap.size + 1 + 1) W2 (pre.map Prod.fst) v (opF (plL pre)) ∧ Box W2 w.heap.size #[noS] 53 ∧ Box W2 (w.heap.size + 1) #[.int .i64 0] 24 ∧ SAt (w.heap.size + 1 + 1) W2 x.1 v from ⟨HR.out.1.ck hck2, hck2.box HR.out.2.1, hck2.box HR.out.2.2.1, HR.out.2.2.2.ck hck2⟩)
    have e0 := H2.out.2.1.c 0 _ rfl
    have e1 := H2.out.2.2.1.c 0 _ rfl
    have f0 := H2.out.2.1.fz 0
    have f1 := H2.out.2.2.1.fz 0
    clear HK HR hck hck2
    by_cases hx : x.2 = 0
    · have hxb : (x.2 == 0) = true := beq_iff_eq.2 hx
      have c0 := HX.out.c 0 _ rfl
      have c1 := HX.out.c 1 _ rfl
      have c2 := HX.out.c 2 _ rfl
      have c3 := HX.out.c 3 _ rfl
      have c4 := HX.out.c 4 _ rfl
      have c5 := HX.out.c 5 _ rfl
      have kt := j_take (w.heap.size + 1 + 1 + 1) (w.heap.size + 1 + 1) W2 (pre.map Prod.fst) v (opF (plL pre)) x.1 H2.out.1 H2.out.2.2.2 (by rw [List.length_map]; have := HOK.out.len; unfold plL at this; rwa [List.length_map] at this)
      have HXZ := hid hx
      clear hx
      gi_wp2_with fail
      refine ⟨trivial, rfl, (CallsIn.inRound lp (callsIn_wide.2 kt)).mono ?_⟩
      rintro e W3 ⟨ht1, ht2⟩
      have HCE : Hid (colE (plL pre) (plE x) = tkE (pgsOf (pre.map Prod.fst)) (opF (plL pre)) x.1.1.p) := by
        show _ = _
        unfold colE
        rw [if_neg (fun q => q HXZ.out), pgs_pl]
        rfl
      by_cases hT : tkE (pgsOf (pre.map Prod.fst)) (opF (plL pre)) x.1.1.p = 0
      · obtain ⟨rfl, v', g1, g2, g3⟩ := ht2 hT
        have hb := g3 (w.heap.size + 1 + 1) (Nat.le_refl _) (Nat.le_of_lt H2.out.1.bx.lt)
        have HF : Hid (KeepsOthers W2 W3 ∧ Below w.heap.size W2 W3 ∧ CoI w.heap.size (pre ++ [x]) W3) := ⟨g2, hb.mono (by omega), v', by rw [List.map_append, plL_snoc, opF_snoc]; exact g1, ⟨(hb.block _ (by omega)).trans H2.out.2.1.h⟩, ⟨(hb.block _ (by omega)).trans H2.out.2.2.1.h⟩, by rw [plL_snoc]; exact HOK.out.snoc (HCE.out.trans hT), HLO.out⟩
        clear ht1 ht2 g1 g2 g3 hb kt e0 e1 f0 f1 c0 c1 c2 c3 c4 c5 hxb
        gi_wp2
        exact HF.out
      · obtain ⟨rfl, hb⟩ := ht1 hT
        generalize tkE (pgsOf (pre.map Prod.fst)) (opF (plL pre)) x.1.1.p = E at *
        have hEb : (E != 0) = true := bne_iff_ne.2 hT
        have HH : Hid (Box W3 w.heap.size #[noS] 53 ∧ Box W3 (w.heap.size + 1) #[.int .i64 0] 24 ∧ KeepsOthers W2 W3 ∧ Below w.heap.size W2 W3) := ⟨H2.out.2.1.keep hb, H2.out.2.2.1.keep hb, keeps_of hb, hb.mono (Nat.le_of_lt H2.out.2.1.lt)⟩
        have e0 := HH.out.1.c 0 _ rfl
        have e1 := HH.out.2.1.c 0 _ rfl
        have f0 := HH.out.1.fz 0
        have f1 := HH.out.2.1.fz 0
        have HTT := hid hT
        clear ht1 ht2 hb kt hxb c0 c1 c2 c3 c4 c5 hT
        gi_wp2
        exact ⟨HH.out.2.2.1.trans ((KeepsOthers.setCell _ _ _).trans (KeepsOthers.setCell _ _ _)), (HH.out.2.2.2.setCell (p := ⟨w.heap.size, 0, none⟩) (Nat.le_refl _) _).setCell (p := ⟨w.heap.size + 1, 0, none⟩) (Nat.le_succ _) _, pre, x, rfl, HOK.out, by rw [HCE.out]; exact HTT.out, (HH.out.1.setc _).otherc (by omega) _, by rw [HCE.out]; exact (HH.out.2.1.otherc (by omega) _).setc _⟩
    · have hxb : (x.2 == 0) = false := beq_eq_false_iff_ne.2 hx
      have hxc : (x.2 != 0) = true := bne_iff_ne.2 hx
      have HCE : Hid (colE (plL pre) (plE x) = x.2) := by
        show _ = _
        unfold colE
        rw [if_pos (show (plE x).2 ≠ 0 from hx)]
        rfl
      have HXZ := hid hx
      clear hx
      gi_wp2
      exact ⟨(KeepsOthers.setCell _ _ _).trans (KeepsOthers.setCell _ _ _), ((Below.refl _ _).setCell (p := ⟨w.heap.size, 0, none⟩) (Nat.le_refl _) _).setCell (p := ⟨w.heap.size + 1, 0, none⟩) (Nat.le_succ _) _, pre, x, rfl, HOK.out, by rw [HCE.out]; exact HXZ.out, (H2.out.2.1.setc _).otherc (by omega) _, by rw [HCE.out]; exact (H2.out.2.2.1.otherc (by omega) _).setc _⟩
  case done =>
    rintro D xs W hD hxs ⟨v, hr, hb0, hb1, hok, hlo⟩ hB hdef
    have HLO := hid hlo
    clear hlo
    obtain ⟨ao, co, ev⟩ := owns_sl hr.own
    subst ev
    have HB := hid (HWC.out.trans hB)
    have HD := hid hdef
    have HDD : Hid (w.heap.size ≤ D) := by have := HWC.out.size; show _ ≤ _; omega
    have HR := hid (show RW (w.heap.size + 1 + 1 + 1) (w.heap.size + 1 + 1) W (xs.map Prod.fst) (.slice ao (xs.map Prod.fst).length co) (opF (plL xs)) ∧ Box W w.heap.size #[noS] 53 ∧ Box W (w.heap.size + 1) #[.int .i64 0] 24 from ⟨hr, hb0, hb1⟩)
    have HOK := hid hok
    have HXS := hid hxs
    have kw := j_isWhole (w.heap.size + 1 + 1 + 1) (w.heap.size + 1 + 1) W (xs.map Prod.fst) _ (opF (plL xs)) hr (fun y hy => by
      obtain ⟨x, hx, rfl⟩ := List.mem_map.1 hy
      have := (hok.may (plE x) (List.mem_map.2 ⟨x, hx, rfl⟩)).1
      exact ⟨this.1, this.2.1⟩) (by rw [List.length_map]; have := hok.len; unfold plL at this; rwa [List.length_map] at this)
    rw [pgs_pl] at kw
    have HRN : Hid (runC X [] = if whB (pgF (plL xs)) (opF (plL xs)) = true then (0, (plL xs).map Prod.fst) else (2, [])) := by
      show _ = _
      rw [← hxs]
      exact run_all hok
    clear hr hb0 hb1 hok hB hdef hS1 HG HEG hxs
    generalize whB (pgF (plL xs)) (opF (plL xs)) = wb at *
    gi_wp2_with fail
    refine ⟨trivial, rfl, (callsIn_wide.2 kw).mono ?_⟩
    rintro e W3 ⟨rfl, hb3⟩
    have H3 := hid (show RW (w.heap.size + 1 + 1 + 1) (w.heap.size + 1 + 1) W3 (xs.map Prod.fst) (.slice ao (xs.map Prod.fst).length co) (opF (plL xs)) ∧ Box W3 w.heap.size #[noS] 53 ∧ Box W3 (w.heap.size + 1) #[.int .i64 0] 24 ∧ Below w.heap.size w W3 ∧ W3.heap[D]? = some (.deferred (some [])) from ⟨HR.out.1.low hb3, HR.out.2.1.keep hb3, HR.out.2.2.keep hb3, below_on HB.out HB.out.size hb3, (hb3.block _ (lt_some HD.out)).trans HD.out⟩)
    have e0 := H3.out.2.1.c 0 _ rfl
    have e1 := H3.out.2.2.1.c 0 _ rfl
    have f0 := H3.out.2.1.fz 0
    have f1 := H3.out.2.2.1.fz 0
    have e2 := H3.out.1.bx.c 0 _ rfl
    clear hb3 kw HR HB HD
    cases wb
    · gi_wp2
      have hd2 := ((KeepsOthers.setCell W3 ⟨w.heap.size, 0, none⟩ noS).trans (KeepsOthers.setCell _ ⟨w.heap.size + 1, 0, none⟩ (.int .i64 2))).same D _ H3.out.2.2.2.2 rfl
      have hck := Ck.put (.deferred none) hd2 rfl
      have c0 := (hck.box ((H3.out.2.1.setc noS).otherc (by omega) (.int .i64 2))).c 0 _ rfl
      have c1 := (hck.box ((H3.out.2.2.1.otherc (by omega) noS).setc (.int .i64 2))).c 0 _ rfl
      have hrn : runC X [] = (2, []) := HRN.out
      refine ⟨by simp, .inl ⟨_, _, rfl, run_takeDeferred hd2, ?_⟩⟩
      refine ⟨.tuple #[.slice none 0 0, .int .i64 2], ?_, ⟨fun k => absurd k (by rw [hrn]; decide), fun _ => by rw [hrn]⟩, below_put ((H3.out.2.2.2.1.setCell (p := ⟨w.heap.size, 0, none⟩) (Nat.le_refl _) _).setCell (p := ⟨w.heap.size + 1, 0, none⟩) (Nat.le_succ _) _) HDD.out _⟩
      simp [results, Tryd.f22, go_sem, c0, c1]
    · gi_wp2
      have hd2 := ((KeepsOthers.setCell W3 ⟨w.heap.size, 0, none⟩ (.slice ao (xs.map Prod.fst).length co)).trans (KeepsOthers.setCell _ ⟨w.heap.size + 1, 0, none⟩ (.int .i64 0))).same D _ H3.out.2.2.2.2 rfl
      have hck := Ck.put (.deferred none) hd2 rfl
      have c0 := (hck.box ((H3.out.2.1.setc (.slice ao (xs.map Prod.fst).length co)).otherc (by omega) (.int .i64 0))).c 0 _ rfl
      have c1 := (hck.box ((H3.out.2.2.1.otherc (by omega) (.slice ao (xs.map Prod.fst).length co)).setc (.int .i64 0))).c 0 _ rfl
      have hrn : runC X [] = (0, (plL xs).map Prod.fst) := HRN.out
      have hsh : ShsAt (((W3.setCell ⟨w.heap.size, 0, none⟩ (.slice ao (xs.map Prod.fst).length co)).setCell ⟨w.heap.size + 1, 0, none⟩ (.int .i64 0)).putObj D (.deferred none)) (.slice ao (xs.map Prod.fst).length co) (xs.map Prod.fst) := by
        refine ⟨w.heap.size + 1 + 1 + 1, hck.owns (owns_other (owns_other H3.out.1.own (by omega) _) (by omega) _), fun y hy => hck.pg ?_⟩
        have hs := H3.out.1.lac y hy
        have hlo := HLO.out y hy
        exact (hs.pg.otherc (fun h0 b hb => (hlo h0 b hb).1) _).otherc (fun h0 b hb => (hlo h0 b hb).2) _
      have hfin : ColP X (.returned (.tuple #[.slice ao (xs.map Prod.fst).length co, .int .i64 0])) (((W3.setCell ⟨w.heap.size, 0, none⟩ (.slice ao (xs.map Prod.fst).length co)).setCell ⟨w.heap.size + 1, 0, none⟩ (.int .i64 0)).putObj D (.deferred none)) := ⟨fun _ => ⟨_, xs.map Prod.fst, rfl, hsh, by
        rw [hrn]
        show _ = (plL xs).map Prod.fst
        unfold plL
        rw [List.map_map, List.map_map]
        rfl, by rw [List.length_map]; have := HOK.out.len; unfold plL at this; rwa [List.length_map] at this, by rw [← HXS.out]; exact HOK.out⟩, fun k => absurd (by rw [hrn]) k⟩
      have hbf := below_put ((H3.out.2.2.2.1.setCell (p := ⟨w.heap.size, 0, none⟩) (Nat.le_refl _) (.slice ao (xs.map Prod.fst).length co)).setCell (p := ⟨w.heap.size + 1, 0, none⟩) (Nat.le_succ _) (.int .i64 0)) HDD.out (.deferred none)
      rw [List.length_map] at hd2 c0 c1 hfin hbf
      refine ⟨by simp, .inl ⟨_, _, rfl, run_takeDeferred hd2, ?_⟩⟩
      refine ⟨.tuple #[.slice ao xs.length co, .int .i64 0], ?_, hfin, hbf⟩
      simp [results, Tryd.f22, go_sem, c0, c1]
  case stop =>
    rintro D pre W hD hp ⟨p, x, rfl, hok, hE, h0, h1⟩ hB hdef
    have HB := hid (HWC.out.trans hB)
    have HDD : Hid (w.heap.size ≤ D) := by have := HWC.out.size; show _ ≤ _; omega
    have hck := Ck.put (.deferred none) hdef rfl
    have c0 := (hck.box h0).c 0 _ rfl
    have c1 := (hck.box h1).c 0 _ rfl
    have hrn : runC X [] = (colE (plL p) (plE x), []) := run_bad (by rw [← plL_snoc]; exact hp) hok hE
    have HRN := hid hrn
    have HE := hid hE
    clear hS1 h0 h1 hB hrn hE hok hp HG HEG
    gi_wp2
    refine ⟨by simp, .inl ⟨_, _, rfl, run_takeDeferred hdef, ?_⟩⟩
    refine ⟨.tuple #[.slice none 0 0, .int .i64 (colE (plL p) (plE x))], ?_, ⟨fun k => absurd k (by rw [HRN.out]; exact HE.out), fun _ => by rw [HRN.out]⟩, below_put HB.out HDD.out _⟩
    simp [results, Tryd.f22, go_sem, c0, c1]

end Go.Proofs.YtjkamannjgcmiaaDoor
