/- Own text: the walk of Packets. slices.EqualFunc, cuts. -/
import Derived.Test.YtjkamannjgcmiaaDoorG29x
import Derived.Test.YtjkamannjgcmiaaDoorQ15pa
namespace Go.Proofs.YtjkamannjgcmiaaDoor
open Go.RowKit
set_option linter.unusedSimpArgs false
set_option linter.unusedVariables false

attribute [local go_sem] Oper.semAt_some
/-- Between two rounds; behind a round that has refused. -/
def PkI (B : Nat) (pre : List Int) (W : World) : Prop := ∃ v out n op, PkS B W v out n op ∧ PkG pre out n op
def PkX (B : Nat) (pre : List Int) (W : World) : Prop := (Box W B #[noS] 37 ∧ Box W (B + 1) #[.int .i64 60] 24) ∧ ∃ p x, pre = p ++ [x] ∧ ¬ (0 ≤ x ∧ x ≤ 255)
theorem pk_start (w : World) (X : Obj) : PkS w.heap.size ((((((w.alloc (.cells #[noS] 37)).alloc (.cells #[.int .i64 0] 24)).alloc (.cells #[noS] 37)).alloc (.cells #[.int .i64 0] 3)).alloc (.cells #[.bool false] 4)).alloc X) noS [] 0 false ∧ Below w.heap.size w ((((((w.alloc (.cells #[noS] 37)).alloc (.cells #[.int .i64 0] 24)).alloc (.cells #[noS] 37)).alloc (.cells #[.int .i64 0] 3)).alloc (.cells #[.bool false] 4)).alloc X) := by
  have k : ∀ {g : Nat} {C : Array Value} {T : TypeId} {V : World} (O : Obj), Box V g C T → Box (V.alloc O) g C T := fun O h => h.keep (below_new _ _)
  refine ⟨⟨k _ (k _ (k _ (k _ (k _ (Box.new _ _ _))))), ?_, ?_, ?_, ?_, World.ownsRow_nil _ _ _ _⟩, ?_⟩
  · have := Box.new (w.alloc (.cells #[noS] 37)) #[.int .i64 0] 24
    rw [World.size_alloc] at this
    exact k _ (k _ (k _ (k _ this)))
  · have := Box.new ((w.alloc (.cells #[noS] 37)).alloc (.cells #[.int .i64 0] 24)) #[noS] 37
    rw [World.size_alloc, World.size_alloc] at this
    exact k _ (k _ (k _ this))
  · have := Box.new (((w.alloc (.cells #[noS] 37)).alloc (.cells #[.int .i64 0] 24)).alloc (.cells #[noS] 37)) #[.int .i64 0] 3
    rw [World.size_alloc, World.size_alloc, World.size_alloc] at this
    exact k _ (k _ this)
  · have := Box.new ((((w.alloc (.cells #[noS] 37)).alloc (.cells #[.int .i64 0] 24)).alloc (.cells #[noS] 37)).alloc (.cells #[.int .i64 0] 3)) #[.bool false] 4
    rw [World.size_alloc, World.size_alloc, World.size_alloc, World.size_alloc] at this
    exact k _ this
  · have q := below_new w (.cells #[noS] 37)
    have n : ∀ {V : World} (O : Obj), Below w.heap.size w V → Below w.heap.size w (V.alloc O) := fun O h => below_on h h.size (below_new _ _)
    exact n _ (n _ (n _ (n _ (n _ q))))
set_option maxRecDepth 20000 in
set_option maxHeartbeats 3200000 in
theorem j_Packets (l : List Pg) (a : Option Addr) (c : Nat) (w : World) (hl : PgsAt w a l) (hn : l.length ≤ 1000000000000) (ht : (lacesL l).length ≤ 1000000000000) :
    Calls Tryd.prog 15 #[.slice a l.length c] w fun e w' => (∃ ao cap, e = .returned (.tuple #[.slice ao (pktL (lacesL l)).length cap, .int .i64 (pktE (lacesL l))]) ∧ IntsAt w' ao (pktL (lacesL l)) ∧ (pktL (lacesL l)).length ≤ cap ∧ (ao = none → cap = 0)) ∧ Below w.heap.size w w' := by
  have HBAD : Hid (∀ w', Below w.heap.size w w' → ¬ pktOk (lacesL l) → (∃ ao cap, Ending.returned (.tuple #[.slice none 0 0, .int .i64 60]) = .returned (.tuple #[.slice ao (pktL (lacesL l)).length cap, .int .i64 (pktE (lacesL l))]) ∧ IntsAt w' ao (pktL (lacesL l)) ∧ (pktL (lacesL l)).length ≤ cap ∧ (ao = none → cap = 0)) ∧ Below w.heap.size w w') := fun w' hb hbad => by
    have e1 : pktL (lacesL l) = [] := if_neg hbad
    have e2 : pktE (lacesL l) = 60 := if_neg hbad
    rw [e1, e2]
    exact ⟨⟨none, 0, rfl, ⟨Nat.zero_le _, fun x hx => by simp at hx, fun h => absurd h (by simp)⟩, Nat.le_refl _, fun _ => rfl⟩, hb⟩
  have HGOOD : Hid (∀ (w' : World) (out : List Nat) (ao : Option Addr) (cap : Nat), PQ w w' out (.slice ao out.length cap) → pktOk (lacesL l) → sizL (natL (lacesL l)) 0 = out → (∃ bo cap', Ending.returned (.tuple #[.slice ao out.length cap, .int .i64 0]) = .returned (.tuple #[.slice bo (pktL (lacesL l)).length cap', .int .i64 (pktE (lacesL l))]) ∧ IntsAt w' bo (pktL (lacesL l)) ∧ (pktL (lacesL l)).length ≤ cap' ∧ (bo = none → cap' = 0)) ∧ Below w.heap.size w w') := fun w' out ao cap hq hok hout => by
    have e1 : pktL (lacesL l) = out.map (fun x : Nat => (x : Int)) := by unfold pktL; rw [if_pos hok, hout]
    have e2 : pktE (lacesL l) = 0 := if_pos hok
    have hlen := siz_len (natL (lacesL l)) 0
    have hrg := siz_range (natL (lacesL l)) 0 (255 * (lacesL l).length) (by rw [natL_length]; omega) (fun x hx => by have := natL_lt _ hok.1 x hx; omega)
    rw [hout] at hlen hrg
    rw [natL_length] at hlen
    have ho := hq.own
    rw [show out.length = (out.map fun x : Nat => (x : Int)).length by simp] at ho
    obtain ⟨bo, cap', ev, h1, h2, h3⟩ := own_ints ho (by simp; omega) (fun x hx => by
      obtain ⟨y, hy, rfl⟩ := List.mem_map.1 hx
      have := hrg y hy
      omega)
    rw [List.length_map] at ev h2
    injection ev with ev1 ev2 ev3
    subst ev1 ev3
    rw [e1, e2, List.length_map]
    exact ⟨⟨ao, cap, rfl, h1, h2, h3⟩, hq.bl⟩
  have HS0 := hid (pk_start w)
  have HG : Hid (∀ w0 g, Below w.heap.size w w0 → Box w0 g #[.slice a l.length c] 22 → Goes Tryd.prog 53 #[.pointer (some ⟨g, 0, none⟩)] (fun x : Int => #[Value.int .i64 x]) (fun _ _ _ => True) w.heap.size (fun xs => xs = lacesL l) (fun pre => pre <+: lacesL l) (lacesL l).length w0) := fun w0 g hA hb => j_lacesOf1 l a c w w0 hl hn hA g hb
  obtain ⟨iI, hI0, hI1, hI2, hI3⟩ := info_parts5 info3
  have HII : Hid (Tryd.prog.info? 3 = some iI ∧ iI.zero = some (.int .i64 0) ∧ iI.size = 1 ∧ iI.bytes = 8) := ⟨hI0, hI1, hI2, hI3⟩
  have HT := hid ht
  clear hI0 hI1 hI2 hI3 hl hn ht
  refine (callsIn_wide (n := 0)).1 (callsIn_of_wp_marks Tryd.func15 rfl trivial ?_ rfl)
  simp only [Tryd.ntmps15, List.size_toArray, List.length_cons, List.length_nil, Nat.reduceAdd, Nat.reduceSub, Array.replicate_succ, Array.replicate_zero, List.push_toArray, List.append_toArray, List.nil_append, List.cons_append]
  gi_wp2_with fail
  refine ⟨trivial, rfl, (callsIn_wide.2 (j_lacesOf _ _ _ _)).mono ?_⟩
  rintro e w' ⟨rfl, rfl⟩
  gi_wp2_with fail
  have hG := HG.out _ (w.heap.size + 1 + 1 + 1 + 1 + 1) (HS0.out (.cells #[.slice a l.length c] 22)).2 ⟨by
    have := heap_alloc_new (((((w.alloc (.cells #[noS] 37)).alloc (.cells #[.int .i64 0] 24)).alloc (.cells #[noS] 37)).alloc (.cells #[.int .i64 0] 3)).alloc (.cells #[.bool false] 4)) (.cells #[.slice a l.length c] 22)
    rwa [World.size_alloc, World.size_alloc, World.size_alloc, World.size_alloc, World.size_alloc] at this⟩
  have hS := HS0.out (.cells #[.slice a l.length c] 22)
  generalize (((((w.alloc (.cells #[noS] 37)).alloc (.cells #[.int .i64 0] 24)).alloc (.cells #[noS] 37)).alloc (.cells #[.int .i64 0] 3)).alloc (.cells #[.bool false] 4)).alloc (.cells #[.slice a l.length c] 22) = Wc at *
  have HWC := hid hS.2
  have hS1 := hS.1
  clear hS HS0 HG
  refine range_goes (gf := 53) (lb := #[.pointer (some ⟨w.heap.size + 1 + 1 + 1 + 1 + 1, 0, none⟩)]) rfl (enters_of Tryd.func53 (by kernel_rfl) rfl) hG (Below.refl _ _) HWC.out.size (fun _ => rfl)
    (PkI w.heap.size) (PkX w.heap.size)
    (fun s A B h k => by obtain ⟨v, out, n, op, h1, h2⟩ := h; exact ⟨v, out, n, op, h1.ck k, h2⟩)
    (fun s A B h k => ⟨⟨k.box h.1.1, k.box h.1.2⟩, h.2⟩)
    ⟨_, _, _, _, hS1, PkG.nil⟩ ?round ?done ?stop
  case round =>
    rintro lp pre x W0 W K ⟨v, out, n, op, hs, hg⟩ hbb _ hB hN hK
    replace hs := hs.ck (Ck.of hbb)
    clear hbb
    have HK := hid hK
    clear hG hS1 hK
    gi_wp2
    refine HK.out _ _ (Below.refl _ _) fun W2 hck => ?_
    have HS := hid (hs.ck hck)
    have HGG := hid hg
    have HN := hid hN
    have hbd := hg.bd
    have hT := HT.out
    obtain ⟨ao, cap, ev, _⟩ := owns_shape hs.own
    have e0 := HS.out.b0.c 0 _ rfl
    have e1 := HS.out.b1.c 0 _ rfl
    have e2 := HS.out.b2.c 0 _ rfl
    have e3 := HS.out.b3.c 0 _ rfl
    have e4 := HS.out.b4.c 0 _ rfl
    have f0 := HS.out.b0.fz 0
    have f1 := HS.out.b1.fz 0
    have f2 := HS.out.b2.fz 0
    have f3 := HS.out.b3.fz 0
    have f4 := HS.out.b4.fz 0
    subst ev
    have HLE : Hid (w.heap.size ≤ W2.heap.size) := by
      show _ ≤ _
      have := HS.out.b0.lt
      omega
    clear hs hg hck HK hB
    by_cases hx0 : x < 0
    · gi_wp2
      refine ⟨(KeepsOthers.setCell _ _ _).trans (KeepsOthers.setCell _ _ _), ((Below.refl _ _).setCell (p := ⟨w.heap.size, 0, none⟩) (Nat.le_refl _) _).setCell (p := ⟨w.heap.size + 1, 0, none⟩) (Nat.le_succ _) _, ⟨⟨(HS.out.b0.setc _).otherc (by omega) _, (HS.out.b1.otherc (by omega) _).setc _⟩, pre, x, rfl, by omega⟩⟩
    · by_cases hx2 : 255 < x
      · gi_wp2
        refine ⟨(KeepsOthers.setCell _ _ _).trans (KeepsOthers.setCell _ _ _), ((Below.refl _ _).setCell (p := ⟨w.heap.size, 0, none⟩) (Nat.le_refl _) _).setCell (p := ⟨w.heap.size + 1, 0, none⟩) (Nat.le_succ _) _, ⟨⟨(HS.out.b0.setc _).otherc (by omega) _, (HS.out.b1.otherc (by omega) _).setc _⟩, pre, x, rfl, by omega⟩⟩
      · obtain ⟨y, rfl⟩ : ∃ y : Nat, x = (y : Int) := ⟨x.toNat, by omega⟩
        have HCN := hid (HGG.out.cons (x := y) (by omega))
        obtain ⟨n3, hn3⟩ : ∃ n3, n3 = n + y := ⟨_, rfl⟩
        have hni : (n : Int) + (y : Int) = (n3 : Int) := by omega
        have h3b : n3 ≤ 255000000000255 := by have := HN.out; omega
        rw [← hn3] at HCN
        by_cases hy : y = 255
        · have HP4 := hid (HCN.out.1 hy)
          have HS4 : Hid (PkS w.heap.size ((W2.setCell ⟨w.heap.size + 1 + 1 + 1, 0, none⟩ (.int .i64 (n3 : Int))).setCell ⟨w.heap.size + 1 + 1 + 1 + 1, 0, none⟩ (.bool true)) (.slice ao out.length cap) out n3 true) := (HS.out.setn n3).setop true
          subst hy
          have hni2 : (n : Int) + 255 = (n3 : Int) := by omega
          clear HCN hn3 HGG HN hbd hni
          gi_wp2
          refine ⟨(KeepsOthers.setCell _ _ _).trans (KeepsOthers.setCell _ _ _), ((Below.refl _ _).setCell (p := ⟨w.heap.size + 1 + 1 + 1, 0, none⟩) (by show w.heap.size ≤ w.heap.size + 1 + 1 + 1; omega) _).setCell (p := ⟨w.heap.size + 1 + 1 + 1 + 1, 0, none⟩) (by show w.heap.size ≤ w.heap.size + 1 + 1 + 1 + 1; omega) _, ⟨_, _, _, _, HS4.out, HP4.out⟩⟩
        · have HP4 := hid (HCN.out.2 hy)
          have hyb : ((y : Int) == 255) = false := by rw [beq_eq_false_iff_ne]; omega
          have HS4 : Hid (PkS w.heap.size ((W2.setCell ⟨w.heap.size + 1 + 1 + 1, 0, none⟩ (.int .i64 (n3 : Int))).setCell ⟨w.heap.size + 1 + 1 + 1 + 1, 0, none⟩ (.bool false)) (.slice ao out.length cap) out n3 false) := (HS.out.setn n3).setop false
          have HOL : Hid (out.length ≤ 1000000000000) := by have := HN.out; show _ ≤ _; omega
          clear HCN hn3 HGG HN hbd hy
          have HB4 : Hid (Below w.heap.size W2 ((W2.setCell ⟨w.heap.size + 1 + 1 + 1, 0, none⟩ (.int .i64 (n3 : Int))).setCell ⟨w.heap.size + 1 + 1 + 1 + 1, 0, none⟩ (.bool false)) ∧ KeepsOthers W2 ((W2.setCell ⟨w.heap.size + 1 + 1 + 1, 0, none⟩ (.int .i64 (n3 : Int))).setCell ⟨w.heap.size + 1 + 1 + 1 + 1, 0, none⟩ (.bool false))) := ⟨((Below.refl _ _).setCell (p := ⟨w.heap.size + 1 + 1 + 1, 0, none⟩) (by show w.heap.size ≤ w.heap.size + 1 + 1 + 1; omega) _).setCell (p := ⟨w.heap.size + 1 + 1 + 1 + 1, 0, none⟩) (by show w.heap.size ≤ w.heap.size + 1 + 1 + 1 + 1; omega) _, (KeepsOthers.setCell _ _ _).trans (KeepsOthers.setCell _ _ _)⟩
          have HNW : Hid (∀ j u, [Value.int .i64 (n3 : Int)][j]? = some u → (((W2.setCell ⟨w.heap.size + 1 + 1 + 1, 0, none⟩ (.int .i64 (n3 : Int))).setCell ⟨w.heap.size + 1 + 1 + 1 + 1, 0, none⟩ (.bool false)).alloc (.cells #[.int .i64 (n3 : Int)] 3)).cell? ((⟨W2.heap.size, 0, none⟩ : Addr).add j) = some u) := by
            have := one_new ((W2.setCell ⟨w.heap.size + 1 + 1 + 1, 0, none⟩ (.int .i64 (n3 : Int))).setCell ⟨w.heap.size + 1 + 1 + 1 + 1, 0, none⟩ (.bool false)) (.int .i64 (n3 : Int)) 3
            rwa [show ((W2.setCell ⟨w.heap.size + 1 + 1 + 1, 0, none⟩ (.int .i64 (n3 : Int))).setCell ⟨w.heap.size + 1 + 1 + 1 + 1, 0, none⟩ (.bool false)).heap.size = W2.heap.size from by simp [World.setCell]] at this
          have HLB : Hid (w.heap.size + 5 ≤ (((W2.setCell ⟨w.heap.size + 1 + 1 + 1, 0, none⟩ (.int .i64 (n3 : Int))).setCell ⟨w.heap.size + 1 + 1 + 1 + 1, 0, none⟩ (.bool false)).alloc (.cells #[.int .i64 (n3 : Int)] 3)).heap.size) := by
            show _ ≤ _
            have := HS4.out.b4.lt
            rw [World.size_alloc]
            omega
          gi_wp2_with (gi_at_builtin; go_loud (refine wpListIn_append_own _ rfl (.tmp 24) (.tmp 26) 37 rfl (w.heap.size + 5) 3 iI (.int .i64 0) 1 8 Tryd.underlying37 HII.out.1 HII.out.2.1 HII.out.2.2.1 HII.out.2.2.2 rfl (by decide) (.slice ao out.length cap) out.length _ rfl (owns_below HS4.out.own (below_new _ _)) ⟨W2.heap.size, 0, none⟩ 1 1 [.int .i64 (n3 : Int)] rfl rfl HNW.out (by simp [Value.oneCell']) (by simp only [maxLen]; have := HOL.out; omega) (by have := HOL.out; omega) HLB.out ?_); intro v6 w6 ho6 hg6 hx6; have HX6 := hid ((HS4.out.ck (Ck.of (below_new _ (.cells #[.int .i64 (n3 : Int)] 3)))).push ho6 hg6); have HK6 := hid ((HS4.out.ck (Ck.of (below_new _ (.cells #[.int .i64 (n3 : Int)] 3)))).keeps hg6); have HG6 := hid hg6; have g2 := HX6.out.2.c 0 _ rfl; have h2 := HX6.out.2.fz 0; have g3 := HX6.out.1.b3.c 0 _ rfl; have h3 := HX6.out.1.b3.fz 0; obtain ⟨a6, c6, e6, _⟩ := owns_shape ho6; subst e6; clear ho6 hg6 hx6)
          refine ⟨(HB4.out.2.trans ((KeepsOthers.alloc _ _).trans HK6.out)).trans ((KeepsOthers.setCell _ _ _).trans (KeepsOthers.setCell _ _ _)), ((HB4.out.1.trans (grown_to HG6.out ((Below.refl _ _).alloc (by show w.heap.size ≤ _; have := HS4.out.b0.lt; omega) _) (by have := HLB.out; omega) (fun k e => by have := HS4.out.blk k e; omega))).setCell (p := ⟨w.heap.size + 1 + 1, 0, none⟩) (by show w.heap.size ≤ w.heap.size + 1 + 1; omega) _).setCell (p := ⟨w.heap.size + 1 + 1 + 1, 0, none⟩) (by show w.heap.size ≤ w.heap.size + 1 + 1 + 1; omega) _, ⟨_, _, _, _, HX6.out.1.setn 0, HP4.out⟩⟩
  case done =>
    rintro D xs W hD rfl ⟨v, out, n, op, hs, hg⟩ hB hdef
    obtain ⟨ao, cap, ev, _⟩ := owns_shape hs.own
    have HS := hid hs
    have HB := hid (HWC.out.trans hB)
    have HF := hid (by have := hg []; rw [List.append_nil] at this; exact this.fin)
    have HD := hid hdef
    have e0 := HS.out.b0.c 0 _ rfl
    have e1 := HS.out.b1.c 0 _ rfl
    have e2 := HS.out.b2.c 0 _ rfl
    have e4 := HS.out.b4.c 0 _ rfl
    have f0 := HS.out.b0.fz 0
    have f1 := HS.out.b1.fz 0
    subst ev
    clear hs hg hS1 hG hB hdef
    cases op
    · gi_wp2
      have hd2 := ((KeepsOthers.setCell W ⟨w.heap.size, 0, none⟩ (.slice ao out.length cap)).trans (KeepsOthers.setCell _ ⟨w.heap.size + 1, 0, none⟩ (.int .i64 0))).same D _ HD.out rfl
      have hck := Ck.put (.deferred none) hd2 rfl
      have c0 := (hck.box ((HS.out.b0.setc (.slice ao out.length cap)).otherc (by omega) (.int .i64 0))).c 0 _ rfl
      have c1 := (hck.box ((HS.out.b1.otherc (by omega) (.slice ao out.length cap)).setc (.int .i64 0))).c 0 _ rfl
      have hq : PQ w (((W.setCell ⟨w.heap.size, 0, none⟩ (.slice ao out.length cap)).setCell ⟨w.heap.size + 1, 0, none⟩ (.int .i64 0)).putObj D (.deferred none)) out (.slice ao out.length cap) := ⟨hck.owns (owns_base (owns_other (owns_other HS.out.own (by omega) _) (by omega) _) (by omega)), below_put ((HB.out.setCell (p := ⟨w.heap.size, 0, none⟩) (Nat.le_refl _) _).setCell (p := ⟨w.heap.size + 1, 0, none⟩) (Nat.le_succ _) _) (by have := HWC.out.size; omega) _⟩
      refine ⟨by simp, .inl ⟨_, _, rfl, run_takeDeferred hd2, ?_⟩⟩
      refine ⟨.tuple #[.slice ao out.length cap, .int .i64 0], ?_, HGOOD.out _ out ao cap hq (HF.out.1.2 (by simp)) HF.out.2⟩
      simp [results, Tryd.f15, go_sem, c0, c1]
    · gi_wp2
      have hd2 := ((KeepsOthers.setCell W ⟨w.heap.size, 0, none⟩ noS).trans (KeepsOthers.setCell _ ⟨w.heap.size + 1, 0, none⟩ (.int .i64 60))).same D _ HD.out rfl
      have hck := Ck.put (.deferred none) hd2 rfl
      have c0 := (hck.box ((HS.out.b0.setc noS).otherc (by omega) (.int .i64 60))).c 0 _ rfl
      have c1 := (hck.box ((HS.out.b1.otherc (by omega) noS).setc (.int .i64 60))).c 0 _ rfl
      refine ⟨by simp, .inl ⟨_, _, rfl, run_takeDeferred hd2, ?_⟩⟩
      refine ⟨.tuple #[.slice none 0 0, .int .i64 60], ?_, HBAD.out _ (below_put ((HB.out.setCell (p := ⟨w.heap.size, 0, none⟩) (Nat.le_refl _) _).setCell (p := ⟨w.heap.size + 1, 0, none⟩) (Nat.le_succ _) _) (by have := HWC.out.size; omega) _) (fun q => by have := HF.out.1.1 q; simp at this)⟩
      simp [results, Tryd.f15, go_sem, c0, c1]
  case stop =>
    rintro D pre W hD hp ⟨⟨h0, h1⟩, p, x, rfl, hx⟩ hB hdef
    have HB := hid (HWC.out.trans hB)
    have hck := Ck.put (.deferred none) hdef rfl
    have c0 := (hck.box h0).c 0 _ rfl
    have c1 := (hck.box h1).c 0 _ rfl
    have hbad := PkG.bad hp hx
    clear hG hS1 h0 h1 hB
    gi_wp2
    refine ⟨by simp, .inl ⟨_, _, rfl, run_takeDeferred hdef, ?_⟩⟩
    refine ⟨.tuple #[.slice none 0 0, .int .i64 60], ?_, HBAD.out _ (below_put HB.out (by have := HWC.out.size; omega) _) hbad⟩
    simp [results, Tryd.f15, go_sem, c0, c1]

end Go.Proofs.YtjkamannjgcmiaaDoor

namespace Go.Proofs.YtjkamannjgcmiaaDoor
open Go.RowKit
set_option linter.unusedSimpArgs false
set_option linter.unusedVariables false

theorem cl_any (x : Int) (s : ByteArray) (w : World) : Calls Tryd.prog 43 #[.int .i64 x, .string s] w fun e w' => e = .returned (.bool (x == (s.size : Int))) ∧ w' = w := by
  go_enter Tryd.func43, Tryd.ntmps43
  go_wp2_with fail
  go_ret
  exact ⟨rfl, rfl⟩
theorem sizes_at (pk : List ByteArray) (k : Nat) (t : ByteArray) (h : pk[k]? = some t) : (pk.map fun t : ByteArray => (t.size : Int)).take (k + 1) = (pk.map fun t : ByteArray => (t.size : Int)).take k ++ [(t.size : Int)] := by
  rw [List.take_add_one, List.getElem?_map, h]
  rfl
set_option maxRecDepth 20000 in
set_option maxHeartbeats 1600000 in
theorem j_Equal (xs : List Int) (pk : List ByteArray) (a b : Option Addr) (c d : Nat) (w : World) (hx : IntsAt w a xs) (hp : StrsAt w b pk) (hn : pk.length ≤ 140737488355328) : Calls Tryd.prog 44 #[.slice a xs.length c, .slice b pk.length d, .func (.func 43) #[] #[]] w fun e w' => e = .returned (.bool (decide (xs = pk.map fun t : ByteArray => (t.size : Int)))) ∧ w' = w := by
  have HX := hid hx
  have HP := hid hp
  clear hx hp
  by_cases hl : xs.length = pk.length
  · have hlb : ((xs.length : Int) != (pk.length : Int)) = false := by rw [bne_eq_false_iff_eq]; omega
    have HL := hid hl
    have HS0 : Hid (xs.take 0 = (pk.map fun t : ByteArray => (t.size : Int)).take 0) := rfl
    clear hl
    go_enter Tryd.func44, Tryd.ntmps44
    go_wp2_with fail
    go_loopw [17] (fun s17 wr => ∃ k : Nat, k ≤ xs.length ∧ s17 = .int .i64 (k : Int) ∧ wr = w ∧ xs.take k = (pk.map fun t : ByteArray => (t.size : Int)).take k) (fun s17 _ => xs.length - (intOf s17).toNat)
    case atStart => exact ⟨0, Nat.zero_le _, rfl, rfl, HS0.out⟩
    case round =>
      clear HS0
      obtain ⟨k, hk, rfl, hw, htk⟩ := hrel
      subst hw
      have HTK := hid htk
      clear htk
      by_cases hlt : k < xs.length
      · obtain ⟨t, ht⟩ : ∃ t, pk[k]? = some t := ⟨_, List.getElem?_eq_getElem (by have := HL.out; omega)⟩
        obtain ⟨b1, o1, rfl, q1⟩ := HX.out.at k hlt
        obtain ⟨b2, o2, rfl, q2⟩ := HP.out.at k t ht
        have r1 := q1 wr (Below.refl _ _)
        have r2 := q2 wr (Below.refl _ _)
        have HST : Hid (xs.getD k 0 = (t.size : Int) → xs.take (k + 1) = (pk.map fun t : ByteArray => (t.size : Int)).take (k + 1)) := fun h => by
          rw [sizes_at pk k t ht, ← h, List.take_add_one, List.getElem?_eq_getElem hlt, ← HTK.out, List.getD_eq_getElem?_getD, List.getElem?_eq_getElem hlt]
          rfl
        have HSN : Hid (¬ xs.getD k 0 = (t.size : Int) → ¬ xs = pk.map fun t : ByteArray => (t.size : Int)) := fun h e => h (by
          rw [e, List.getD_eq_getElem?_getD, List.getElem?_map, ht]
          rfl)
        have hkp : (k : Int) < (pk.length : Int) := by have := HL.out; omega
        have kc := cl_any (xs.getD k 0) t wr
        clear q1 q2 ht HTK
        generalize xs.getD k 0 = x at *
        by_cases hxt : x = (t.size : Int)
        · have hb : (x == (t.size : Int)) = true := beq_iff_eq.2 hxt
          have HS2 := hid (HST.out hxt)
          rw [hb] at kc
          clear HST HSN hxt hb
          go_wp2_with fail
          refine kc.mono ?_
          rintro e w2 ⟨rfl, rfl⟩
          clear kc
          go_wp2_with fail
          go_roundw
          case rel => exact ⟨k + 1, by omega, by go_num, by simp, HS2.out⟩
          case measure => simp [intOf]; omega
        · have hb : (x == (t.size : Int)) = false := beq_eq_false_iff_ne.2 hxt
          have HNO : Hid (decide (xs = pk.map fun t : ByteArray => (t.size : Int)) = false) := decide_eq_false (HSN.out hxt)
          rw [hb] at kc
          clear HST HSN hxt hb
          go_wp2_with fail
          refine kc.mono ?_
          rintro e w2 ⟨rfl, rfl⟩
          clear kc
          go_wp2_with fail
          go_ret
          exact ⟨by rw [HNO.out]; rfl, rfl⟩
      · have HYES : Hid (decide (xs = pk.map fun t : ByteArray => (t.size : Int)) = true) := decide_eq_true (by
          have := HTK.out
          rwa [List.take_of_length_le (by omega), List.take_of_length_le (by rw [List.length_map]; have := HL.out; omega)] at this)
        clear HTK
        go_wp2_with fail
        go_ret
        exact ⟨by rw [HYES.out]; rfl, rfl⟩
  · have hlb : ((xs.length : Int) != (pk.length : Int)) = true := by rw [bne_iff_ne]; omega
    have HNO : Hid (decide (xs = pk.map fun t : ByteArray => (t.size : Int)) = false) := decide_eq_false (fun e => hl (by rw [e, List.length_map]))
    clear hl
    go_enter Tryd.func44, Tryd.ntmps44
    go_wp2_with fail
    go_ret
    exact ⟨by rw [HNO.out]; rfl, rfl⟩
theorem fit_iff (l : List Pg) (pk : List ByteArray) : fitOk l (pk.map bytesOf) ↔ pktE (lacesL l) = 0 ∧ pktL (lacesL l) = pk.map fun t : ByteArray => (t.size : Int) := by
  have hm : (pk.map bytesOf).map List.length = pk.map ByteArray.size := by
    rw [List.map_map]
    exact List.map_congr_left (fun t _ => bytesOf_length t)
  have hi : ∀ (a : List Nat), a.map (fun x : Nat => (x : Int)) = pk.map (fun t : ByteArray => (t.size : Int)) ↔ a = pk.map ByteArray.size := by
    intro a
    have e : pk.map (fun t : ByteArray => (t.size : Int)) = (pk.map ByteArray.size).map (fun x : Nat => (x : Int)) := by rw [List.map_map]; rfl
    rw [e]
    constructor
    · intro h
      have h2 := congrArg (List.map Int.toNat) h
      rw [List.map_map, List.map_map] at h2
      have e1 : Int.toNat ∘ (fun x : Nat => (x : Int)) = id := by funext x; rfl
      rw [e1, List.map_id, List.map_id] at h2
      exact h2
    · rintro rfl; rfl
  unfold pktE pktL
  by_cases h : pktOk (lacesL l)
  · rw [if_pos h, if_pos h, hi, ← hm]
    exact ⟨fun q => ⟨rfl, q.2.2⟩, fun q => ⟨h.1, h.2, q.2⟩⟩
  · rw [if_neg h]
    exact ⟨fun q => absurd ⟨q.1, q.2.1⟩ h, fun q => absurd q.1 (by decide)⟩
set_option maxRecDepth 20000 in
set_option maxHeartbeats 1600000 in
theorem j_cuts (l : List Pg) (pk : List ByteArray) (a b : Option Addr) (c d : Nat) (w : World) (hl : PgsAt w a l) (hp : StrsAt w b pk) (hn : l.length ≤ 1000000000000) (ht : (lacesL l).length ≤ 1000000000000) (hk : pk.length ≤ 140737488355328) : Calls Tryd.prog 27 #[.slice a l.length c, .slice b pk.length d] w fun e w' => e = .returned (.bool (decide (fitOk l (pk.map bytesOf)))) ∧ Below w.heap.size w w' := by
  have kp := j_Packets l a c w hl hn ht
  have HP := hid hp
  have hfi := fit_iff l pk
  obtain ⟨G, hG⟩ : ∃ G, decide (fitOk l (pk.map bytesOf)) = G := ⟨_, rfl⟩
  rw [hG]
  have HFI : Hid (G = decide (pktE (lacesL l) = 0 ∧ pktL (lacesL l) = pk.map fun t : ByteArray => (t.size : Int))) := by
    show _ = _
    rw [← hG, decide_eq_decide]
    exact hfi
  clear hl hp hG hfi
  go_enter Tryd.func27, Tryd.ntmps27
  go_wp2_with fail
  refine kp.mono ?_
  rintro e w1 ⟨⟨ao, cap, rfl, hi, hle, hno⟩, hb⟩
  have HB := hid hb
  have HI := hid hi
  generalize pktL (lacesL l) = X at *
  generalize pktE (lacesL l) = E at *
  clear kp hb hi hno
  by_cases hE : E = 0
  · have hEb : (E == 0) = true := beq_iff_eq.2 hE
    have ke := j_Equal X pk ao b cap d w1 HI.out (HP.out.below HB.out) hk
    have HD : Hid (decide (X = pk.map fun t : ByteArray => (t.size : Int)) = G) := by
      show _ = _
      rw [HFI.out, decide_eq_decide]
      exact ⟨fun q => ⟨hE, q⟩, fun q => q.2⟩
    rw [HD.out] at ke
    clear HFI HD hE
    go_wp2_with fail
    refine ke.mono ?_
    rintro e w2 ⟨rfl, rfl⟩
    clear ke
    go_wp2_with fail
    go_ret
    exact ⟨rfl, HB.out⟩
  · have hEb : (E == 0) = false := beq_eq_false_iff_ne.2 hE
    obtain rfl : G = false := by rw [HFI.out]; exact decide_eq_false (fun q => hE q.1)
    clear HFI hE
    go_wp2_with fail
    go_ret
    exact ⟨rfl, HB.out⟩

end Go.Proofs.YtjkamannjgcmiaaDoor
