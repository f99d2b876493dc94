/- Own text: strings.Join of the library, laid here. the walks of Parse and Build. -/
import Derived.Test.YtjkamannjgcmiaaDoorQ15pa
import Derived.Shelf.Strings.OnBuilder
import Derived.Test.YtjkamannjgcmiaaDoorQ15pp
import Derived.Test.YtjkamannjgcmiaaDoorG38x
import Derived.Test.YtjkamannjgcmiaaDoorG33x
namespace Go.Proofs.YtjkamannjgcmiaaDoor
open Go.RowKit
set_option linter.unusedSimpArgs false
set_option linter.unusedVariables false

open Go.Shelf
/-- Which number a function or a type of the library bears here, Join among them. -/
def shelfRenJ : Go.Shelf.Ren := ⟨fun | 165 => 47 | 166 => 38 | 169 => 39 | 240 => 60 | 241 => 64 | 276 => 72 | 277 => 73 | 156 => 29 | n => n, fun | 0 => 0 | 3 => 3 | 4 => 4 | 5 => 5 | 9 => 9 | 20 => 20 | 37 => 51 | 70 => 79 | 72 => 81 | 164 => 114 | 75 => 83 | 80 => 86 | 127 => 103 | 31 => 23 | 76 => 84 | n => n, fun | n => n⟩
theorem lays156 : Go.Proofs.Lays.n156 Tryd.prog shelfRenJ := {
  mixed := by kernel_rfl
  f156 := Tryd.func29.trans (congrArg some (by kernel_rfl))
  f165 := Tryd.func47.trans (congrArg some (by kernel_rfl))
  f166 := Tryd.func38.trans (congrArg some (by kernel_rfl))
  f169 := Tryd.func39.trans (congrArg some (by kernel_rfl))
  f240 := Tryd.func60.trans (congrArg some (by kernel_rfl))
  f241 := Tryd.func64.trans (congrArg some (by kernel_rfl))
  f276 := Tryd.func72.trans (congrArg some (by kernel_rfl))
  f277 := Tryd.func73.trans (congrArg some (by kernel_rfl))
  t0 := Tryd.underlying0
  a0 := Tryd.isAgg0
  z0 := Tryd.sizeOf0
  v0 := Tryd.zeroValue0
  t3 := Tryd.underlying3
  a3 := Tryd.isAgg3
  z3 := Tryd.sizeOf3
  v3 := Tryd.zeroValue3
  t4 := Tryd.underlying4
  a4 := Tryd.isAgg4
  z4 := Tryd.sizeOf4
  v4 := Tryd.zeroValue4
  t9 := Tryd.underlying9
  a9 := Tryd.isAgg9
  z9 := Tryd.sizeOf9
  v9 := Tryd.zeroValue9
  t20 := Tryd.underlying20
  a20 := Tryd.isAgg20
  z20 := Tryd.sizeOf20
  v20 := Tryd.zeroValue20
  t31 := Tryd.underlying23
  a31 := Tryd.isAgg23
  z31 := Tryd.sizeOf23
  v31 := Tryd.zeroValue23
  t37 := Tryd.underlying51
  a37 := Tryd.isAgg51
  z37 := Tryd.sizeOf51
  v37 := Tryd.zeroValue51
  t70 := Tryd.underlying79
  a70 := Tryd.isAgg79
  z70 := Tryd.sizeOf79
  v70 := Tryd.zeroValue79
  t72 := Tryd.underlying81
  a72 := Tryd.isAgg81
  z72 := Tryd.sizeOf81
  v72 := Tryd.zeroValue81
  t75 := Tryd.underlying83
  a75 := Tryd.isAgg83
  z75 := Tryd.sizeOf83
  v75 := Tryd.zeroValue83
  t76 := Tryd.underlying84
  a76 := Tryd.isAgg84
  z76 := Tryd.sizeOf84
  v76 := Tryd.zeroValue84
  t127 := Tryd.underlying103
  a127 := Tryd.isAgg103
  z127 := Tryd.sizeOf103
  v127 := Tryd.zeroValue103
  t164 := Tryd.underlying114
  a164 := Tryd.isAgg114
  z164 := Tryd.sizeOf114
  v164 := Tryd.zeroValue114 }
theorem shelfExtraJ : Go.Proofs.Builder.Extra Tryd.prog shelfRenJ := {
  sizeBuilder := by kernel_rfl
  liesBuilder := by kernel_rfl
  t5 := Tryd.underlying5
  a5 := Tryd.isAgg5
  z5 := Tryd.sizeOf5
  v5 := Tryd.zeroValue5
  infoByte := by kernel_rfl
  cellsByte := by kernel_rfl
  sizeByte := by kernel_rfl
  neB5 := by decide }
theorem join_flat (pk : List ByteArray) : (⟨(Lib.join (pk.map (·.data.toList)) (⟨#[]⟩ : ByteArray).data.toList).toArray⟩ : ByteArray) = textOf (pk.map bytesOf).flatten := by
  have h0 : ∀ xs : List (List UInt8), Lib.join xs [] = xs.flatten := by
    intro xs
    cases xs with
    | nil => rfl
    | cons x r =>
      rw [Lib.join_cons]
      unfold Lib.joinTail
      rw [List.flatten_cons]
      congr 1
      congr 1
      have : (fun x : List UInt8 => [] ++ x) = id := by funext x; simp
      rw [this, List.map_id]
  have e1 : (⟨(pk.map (·.data.toList)).flatten.toArray⟩ : ByteArray) = textOf (pk.map bytesOf).flatten := by
    apply bytes_inj
    have hl : ∀ x ∈ (pk.map bytesOf).flatten, x < 256 := fun x hx => by
      obtain ⟨l, hl, hx⟩ := List.mem_flatten.1 hx
      obtain ⟨t, _, rfl⟩ := List.mem_map.1 hl
      exact bytesOf_lt t x hx
    rw [S2.bytesOf_textOf _ hl]
    unfold bytesOf
    show List.map UInt8.toNat (pk.map (·.data.toList)).flatten = _
    rw [List.map_flatten, List.map_map]
    rfl
  show (⟨(Lib.join (pk.map (·.data.toList)) []).toArray⟩ : ByteArray) = _
  rw [h0]
  exact e1
theorem j_Join (pk : List ByteArray) (a : Option Addr) (c : Nat) (w : World) (h : StrsAt w a pk) (hc : pk.length ≤ c) (hn : pk.length ≤ 140737488355328) (hz : (pk.map bytesOf).flatten.length ≤ 140737488355328) : Calls Tryd.prog 29 #[.slice a pk.length c, .string ⟨#[]⟩] w fun e w' => e = .returned (.string (textOf (pk.map bytesOf).flatten)) ∧ Below w.heap.size w w' := by
  have HJ := join_flat pk
  by_cases h0 : pk.length = 0
  · have := Go.Proofs.Any.strings_Join_none lays156 shelfExtraJ a c ⟨#[]⟩ w
    rw [h0]
    refine Calls.mono this ?_
    rintro e w' ⟨rfl, rfl⟩
    rw [List.length_eq_zero_iff.1 h0]
    exact ⟨rfl, Below.refl _ _⟩
  · obtain ⟨t, ht⟩ : ∃ t, pk[0]? = some t := ⟨_, List.getElem?_eq_getElem (by omega)⟩
    obtain ⟨b, o, rfl, q⟩ := h.at 0 t ht
    have hlt := lt_cell (q w (Below.refl _ _))
    have := Go.Proofs.Any.strings_Join lays156 shelfExtraJ b o c pk ⟨#[]⟩ w (fun j x hx => by
      obtain ⟨b2, o2, e2, q2⟩ := h.at j x hx
      injection e2 with e2
      injection e2 with e3 e4 e5
      subst e3 e4
      exact q2 w (Below.refl _ _)) hlt hn hc (by
      have := congrArg ByteArray.size HJ
      rw [S2.textOf_size] at this
      have e : (⟨(Lib.join (pk.map (·.data.toList)) (⟨#[]⟩ : ByteArray).data.toList).toArray⟩ : ByteArray).size = (Lib.join (pk.map (·.data.toList)) (⟨#[]⟩ : ByteArray).data.toList).length := by
        show Array.size _ = _
        simp
      omega)
    rw [HJ] at this
    exact this

end Go.Proofs.YtjkamannjgcmiaaDoor

namespace Go.Proofs.YtjkamannjgcmiaaDoor
open Go.RowKit
set_option linter.unusedSimpArgs false
set_option linter.unusedVariables false

theorem ShsAt.below {w w' : World} {v : Value} {L : List SP} (h : ShsAt w v L) (hb : Below w.heap.size w w') : ShsAt w' v L := by
  obtain ⟨B, ho, hp⟩ := h
  exact ⟨B, owns_below ho hb, fun y hy => (hp y hy).below hb⟩
theorem in1_enter (args : Array Value) (w : World) : (callFunc 36 args).run Tryd.prog w = .ok (.enter 36 args) w := by rfl
theorem of1_enter (args : Array Value) (w : World) : (callFunc 45 args).run Tryd.prog w = .ok (.enter 45 args) w := by rfl
theorem mem_fst {X : List PE} {L : List SP} (h : L.map Prod.fst = X.map Prod.fst) {y : SP} (hy : y ∈ L) : ∃ x ∈ X, x.1 = y.1 := by
  have : y.1 ∈ L.map Prod.fst := List.mem_map.2 ⟨y, hy, rfl⟩
  rw [h] at this
  obtain ⟨x, hx, e⟩ := List.mem_map.1 this
  exact ⟨x, hx, e⟩
theorem map_pg (L : List SP) : (L.map Prod.fst).map (·.p) = L.map fun y => y.1.p := by rw [List.map_map]; rfl
set_option maxRecDepth 20000 in
set_option maxHeartbeats 3200000 in
theorem j_Parse (s : ByteArray) (hs : s.size ≤ 140737488351232) (w : World) (hR : S3.RulesAt w) : Calls Tryd.prog 8 #[.string s] w fun e w' => PrsE (prsP (bytesOf s)) e w' ∧ Below w.heap.size w w' := by
  have k1 := j_sheetsIn s w
  have hb1 := below_new w (.cells #[.string s] 9)
  have k2 := j_collect 36 #[.pointer (some ⟨w.heap.size, 0, none⟩)] (rdQ (s.size + 1) s) (s.size + 1) (w.alloc (.cells #[.string s] 9)) in1_enter
    (j_sheetsIn1 s hs (w.alloc (.cells #[.string s] 9)) (w.alloc (.cells #[.string s] 9)) (hR.below hb1) (Below.refl _ _) w.heap.size (Box.new w #[.string s] 9))
  have HB1 := hid hb1
  have HPR := hid (prs_all s)
  obtain ⟨r, hr⟩ : ∃ r, r = prsP (bytesOf s) := ⟨_, rfl⟩
  rw [← hr] at HPR ⊢
  have HFIT := hid (rdQ_fit (s.size + 1) s)
  generalize rdQ (s.size + 1) s = X at *
  clear hb1 hr hR
  go_enter Tryd.func8, Tryd.ntmps8
  go_wp2_with fail
  refine k1.mono ?_
  rintro e w1 ⟨rfl, rfl⟩
  clear k1
  generalize w.alloc (.cells #[.string s] 9) = w1 at *
  go_wp2_with fail
  refine k2.mono ?_
  rintro e w2 ⟨⟨h0, h1⟩, hb2⟩
  have HB2 : Hid (Below w.heap.size w w2) := below_on HB1.out HB1.out.size hb2
  clear k2 hb2
  by_cases hz : (runC X []).1 = 0
  · obtain ⟨v, L, rfl, hsh, hL, hlen, hok⟩ := h0 hz
    have HSH := hid hsh
    have hall := run_all hok
    have hw : whB (pgF X) (opF X) = true := by
      cases hq : whB (pgF X) (opF X)
      · rw [hall, hq] at hz
        exact absurd hz (by simp)
      · rfl
    rw [hw, if_pos rfl] at hall
    have HLX : Hid (L.map Prod.fst = X.map Prod.fst) := by show _ = _; rw [hL, hall]
    have HRE : Hid (r = (0, L.map (fun y => y.1.p), (cutS (L.map Prod.fst)).1)) := by
      show _ = _
      rw [HPR.out, if_pos hz, ← hL, map_pg]
    have hfit : ∀ y ∈ L, fitS y.1 := fun y hy => by
      obtain ⟨x, hx, e⟩ := mem_fst HLX.out hy
      rw [← e]
      exact HFIT.out x hx (hok.may x hx).2
    have kp := j_pagesOf w2 v L hsh hlen
    have HKK : Hid (∀ wx, Below w2.heap.size w2 wx → Calls Tryd.prog 25 #[v] wx fun e w' => (∃ ao cap, e = .returned (.slice ao (cutS (L.map Prod.fst)).1.length cap) ∧ StrsAt w' ao ((cutS (L.map Prod.fst)).1.map textOf) ∧ (cutS (L.map Prod.fst)).1.length ≤ cap ∧ (ao = none → cap = 0)) ∧ Below wx.heap.size wx w') := fun wx hb => j_packetsOf wx v L (hsh.below hb) hlen hfit
    clear h0 h1 hz hL hok hall hw hfit hsh hlen HPR HFIT
    go_wp2_with fail
    refine kp.mono ?_
    rintro e w3 ⟨⟨ao, pc, rfl, g1, g2, g3⟩, hb3⟩
    have H3 : Hid (PgsAt w3 ao (L.map fun y => y.1.p) ∧ L.length ≤ pc ∧ (ao = none → pc = 0) ∧ Below w.heap.size w w3) := ⟨g1, g2, g3, below_on HB2.out HB2.out.size hb3⟩
    have kk := HKK.out w3 hb3
    clear kp g1 g2 g3 hb3 HKK
    go_wp2_with fail
    refine kk.mono ?_
    rintro e w4 ⟨⟨bo, kc, rfl, g1, g2, g3⟩, hb4⟩
    have H4 : Hid (PrsE r (.returned (.tuple #[.slice ao L.length pc, .slice bo (cutS (L.map Prod.fst)).1.length kc, .int .i64 0])) w4 ∧ Below w.heap.size w w4) := by
      refine ⟨?_, below_on H3.out.2.2.2 H3.out.2.2.2.size hb4⟩
      rw [HRE.out]
      exact ⟨ao, pc, bo, kc, by rw [List.length_map], H3.out.1.below hb4, g1, by rw [List.length_map]; exact H3.out.2.1, g2, H3.out.2.2.1, g3⟩
    clear kk g1 g2 g3 hb4 H3
    go_wp2_with fail
    go_ret3
    exact H4.out
  · have he := h1 hz
    subst he
    have HRE : Hid (r = ((runC X []).1, [], [])) := by show _ = _; rw [HPR.out, if_neg hz]
    have hzb : ((runC X []).1 != 0) = true := bne_iff_ne.2 hz
    clear h0 h1 hz HPR HFIT
    generalize (runC X []).1 = E at *
    go_wp2_with fail
    go_ret3
    exact ⟨PrsE.bad HRE.out _, HB2.out⟩

set_option maxRecDepth 20000 in
set_option maxHeartbeats 3200000 in
theorem j_Build (l : List Pg) (pk : List ByteArray) (a b : Option Addr) (c d : Nat) (w : World) (hR : S3.RulesAt w) (hl : PgsAt w a l) (hp : StrsAt w b pk) (hn : l.length ≤ 1048576) (ht : (lacesL l).length ≤ 1048576) (hk : pk.length ≤ 1048576) (hz : (pk.map bytesOf).flatten.length ≤ 4194304) (hg : ∀ p ∈ l, p.gr ≤ 9223372036854775807) (hd : pk.length ≤ d) :
    Calls Tryd.prog 13 #[.slice a l.length c, .slice b pk.length d] w fun e w' => BldE l pk e ∧ Below w.heap.size w w' := by
  have kc := j_cuts l pk a b c d w hl hp (by omega) (by omega) (by omega)
  have HL := hid hl
  have HP := hid hp
  have HG := hid hg
  have HR := hid hR
  clear hl hp hg hR
  go_enter Tryd.func13, Tryd.ntmps13
  go_wp2_with fail
  refine kc.mono ?_
  rintro e w1 ⟨rfl, hb⟩
  have HB1 := hid hb
  clear kc hb
  by_cases hf : fitOk l (pk.map bytesOf)
  · rw [decide_eq_true hf]
    have kj := j_Join pk b d w1 (HP.out.below HB1.out) hd (by omega) (by omega)
    have hsum : (pk.map bytesOf).flatten.length = (natL (lacesL l)).sum := by
      have := siz_sum (natL (lacesL l)) 0 hf.2.1
      rw [flat_len, ← hf.2.2, this, Nat.zero_add]
    have hbt : bytesOf (textOf (pk.map bytesOf).flatten) = (pk.map bytesOf).flatten := S2.bytesOf_textOf _ (flat_lt (fun q hq x hx => by
      obtain ⟨t, _, rfl⟩ := List.mem_map.1 hq
      exact bytesOf_lt t x hx))
    have hTz : (textOf (pk.map bytesOf).flatten).size ≤ 4194304 := by rw [S2.textOf_size]; exact hz
    have hTs : (textOf (pk.map bytesOf).flatten).size = (natL (lacesL l)).sum := by rw [S2.textOf_size]; exact hsum
    have HBO : Hid (∀ t : ByteArray, runC (ofL l (textOf (pk.map bytesOf).flatten)) [] = runC (ofL l (textOf (pk.map bytesOf).flatten)) [] ∧ (bldOk l pk ↔ (∀ p ∈ l, numOk p) ∧ (runC (ofL l (textOf (pk.map bytesOf).flatten)) []).1 = 0)) := fun t => by
      refine ⟨rfl, ?_⟩
      have hlm := lac_mem hf.1
      constructor
      · intro q
        refine ⟨q.2.1, ?_⟩
        rw [← ofL_prs l _ (fun p hp => ⟨q.2.1 p hp, hlm p hp⟩) hTs, hbt]
        exact q.2.2
      · intro q
        refine ⟨hf, q.1, ?_⟩
        have := ofL_prs l _ (fun p hp => ⟨q.1 p hp, hlm p hp⟩) hTs
        rw [hbt] at this
        rw [this]
        exact q.2
    have HFB : Hid (bytesOf (textOf (pk.map bytesOf).flatten) = (pk.map bytesOf).flatten) := hbt
    have HLK := hid hf.1
    clear hf hsum hbt
    generalize textOf (pk.map bytesOf).flatten = T at *
    go_wp2_with fail
    refine kj.mono ?_
    rintro e w2 ⟨rfl, hb⟩
    have HB2 : Hid (Below w.heap.size w w2) := below_on HB1.out HB1.out.size hb
    have ks := j_sheetsOf a l.length c T w2
    clear kj hb
    go_wp2_with fail
    refine ks.mono ?_
    rintro e w3 ⟨rfl, hw3⟩
    have hb3 : Below w2.heap.size w2 w3 := by rw [hw3]; exact ((Below.refl _ _).alloc (Nat.le_refl _) _).alloc (by simp) _
    have hA := Box.new w2 #[.slice a l.length c] 22
    have hA2 : Box w3 w2.heap.size #[.slice a l.length c] 22 := by rw [hw3]; exact hA.keep (below_new _ _)
    have hBx : Box w3 (w2.heap.size + 1) #[.string T] 9 := by
      have := Box.new (w2.alloc (.cells #[.slice a l.length c] 22)) #[.string T] 9
      rw [World.size_alloc] at this
      rw [hw3]
      exact this
    have HB3 : Hid (Below w.heap.size w w3) := below_on HB2.out HB2.out.size hb3
    have k2 := j_collect 45 #[.pointer (some ⟨w2.heap.size + 1, 0, none⟩), .pointer (some ⟨w2.heap.size, 0, none⟩)] (ofL l T) l.length w3 of1_enter
      (j_sheetsOf1 l a c T w3 w3 (HL.out.below HB3.out) (by omega) (by omega) HLK.out (by omega) (Below.refl _ _) w2.heap.size (w2.heap.size + 1) hBx hA2)
    have HBO2 : Hid (bldOk l pk ↔ (∀ p ∈ l, numOk p) ∧ (runC (ofL l T) []).1 = 0) := (HBO.out T).2
    clear ks hw3 hb3 hA hA2 hBx HBO
    go_wp2_with fail
    refine k2.mono ?_
    rintro e w4 ⟨⟨h0, h1⟩, hb⟩
    have HB4 : Hid (Below w.heap.size w w4) := below_on HB3.out HB3.out.size hb
    clear k2 hb
    by_cases hrz : (runC (ofL l T) []).1 = 0
    · obtain ⟨v, L, rfl, hsh, hL, hlen, hok⟩ := h0 hrz
      have hnum := hok.num HG.out
      have hall := run_all hok
      have hw : whB (pgF (ofL l T)) (opF (ofL l T)) = true := by
        cases hq : whB (pgF (ofL l T)) (opF (ofL l T))
        · rw [hall, hq] at hrz
          exact absurd hrz (by simp)
        · rfl
      rw [hw, if_pos rfl] at hall
      have hLX : L.map Prod.fst = (ofL l T).map Prod.fst := by rw [hL, hall]
      have hlm := lac_mem HLK.out
      have hff : ∀ y ∈ L, fitS y.1 ∧ numOk y.1.p := fun y hy => by
        obtain ⟨x, hx, e⟩ := mem_fst hLX hy
        rw [← e]
        refine ⟨ofL_fit l T (fun p hp => ⟨hlm p hp, (hnum p hp).2.2.2.2⟩) hTs x hx, hnum _ ?_⟩
        have : x.1.p ∈ pgF (ofL l T) := by unfold pgF; exact List.mem_map.2 ⟨x, hx, rfl⟩
        rwa [ofL_pg] at this
      have kt := j_text w4 v L (HR.out.below HB4.out) hsh hlen hff
      have hbo := HBO2.out.2 ⟨hnum, hrz⟩
      have htx : layS (L.map Prod.fst) = layAll l (pk.map bytesOf).flatten := by rw [hLX, ofL_lay l T hTs, HFB.out]
      have HTE : Hid (BldE l pk (.returned (.tuple #[.string (textOf (layS (L.map Prod.fst))), .int .i64 0]))) := BldE_yes hbo (by
        rw [htx]
        exact S2.bytesOf_textOf _ (layAll_lt l _ (fun p hp => ⟨hnum p hp, hlm p hp⟩) (flat_lt (fun q hq x hx => by
          obtain ⟨t, _, rfl⟩ := List.mem_map.1 hq
          exact bytesOf_lt t x hx))))
      clear hLX h0 h1 hrz hL hok hall hw hff hsh hlen hnum hlm hbo htx HBO2 HFB HLK
      go_wp2_with fail
      refine kt.mono ?_
      rintro e w5 ⟨rfl, hb⟩
      have HB5 : Hid (Below w.heap.size w w5) := below_on HB4.out HB4.out.size hb
      clear kt hb
      go_wp2_with fail
      go_ret2
      exact ⟨HTE.out, HB5.out⟩
    · have he := h1 hrz
      subst he
      have HNO : Hid (¬ bldOk l pk) := fun q => hrz (HBO2.out.1 q).2
      have hzb : ((runC (ofL l T) []).1 != 0) = true := bne_iff_ne.2 hrz
      clear h0 h1 hrz HBO2
      generalize (runC (ofL l T) []).1 = E at *
      go_wp2_with fail
      go_ret2
      exact ⟨BldE_no HNO.out, HB4.out⟩
  · rw [decide_eq_false hf]
    have HNO : Hid (¬ bldOk l pk) := fun q => hf q.1
    clear hf
    go_wp2_with fail
    go_ret2
    exact ⟨BldE_no HNO.out, HB1.out⟩

end Go.Proofs.YtjkamannjgcmiaaDoor
