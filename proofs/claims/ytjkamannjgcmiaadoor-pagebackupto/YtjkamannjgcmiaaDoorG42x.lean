/- Own text: the walk of PageSpoilt over what the program's calls do. pages, plainly: what a text that was read holds. the walk of PageBack over what the program's calls do. -/
import Derived.Test.YtjkamannjgcmiaaDoorG41x
import Derived.Test.YtjkamannjgcmiaaDoorP15back
namespace Go.Proofs.YtjkamannjgcmiaaDoor
open Go.RowKit
set_option linter.unusedSimpArgs false
set_option linter.unusedVariables false

/-- How much a call of Build is handed. -/
abbrev Bd (l : List Pg) (pk : List ByteArray) : Prop := l.length ≤ 1048576 ∧ (lacesL l).length ≤ 1048576 ∧ pk.length ≤ 1048576 ∧ (pk.map bytesOf).flatten.length ≤ 4194304 ∧ ∀ p ∈ l, p.gr ≤ 9223372036854775807
theorem ex_empty (s : ByteArray) (h : ¬ s.size = 0) : s.toList.isEmpty = false := by
  rw [ByteArray.toList_eq, List.isEmpty_eq_false_iff]
  intro e
  apply h
  have : s.data.toList.length = 0 := by rw [e]; rfl
  rw [Array.length_toList] at this
  exact this
theorem bld_yes {l : List Pg} {pk : List ByteArray} (h : bldOk l pk) : bldP l (pk.map bytesOf) = (0, layAll l (pk.map bytesOf).flatten) := by
  unfold bldP
  rw [if_pos h]
theorem bld_no {l : List Pg} {pk : List ByteArray} (h : ¬ bldOk l pk) : bldP l (pk.map bytesOf) = (60, []) := by
  unfold bldP
  rw [if_neg h]

set_option maxRecDepth 20000 in
set_option maxHeartbeats 3200000 in
theorem spoilt15 {L : World → Prop} (D : Does15 L) (l : List Pg) (pk : List ByteArray) (a b : Option Addr) (c d : Nat) (at_ : Int) (w : World) (hL : L w) (hl : PgsAt w a l) (hp : StrsAt w b pk) (hbd : Bd l pk) (hd : pk.length ≤ d) : Calls Tryd.prog 7 #[.slice a l.length c, .slice b pk.length d, .int .i64 at_] w fun e w' => e = .returned (.bool true) ∧ Below w.heap.size w w' := by
  have KA : Hid (∀ wx, Below w.heap.size w wx → Calls Tryd.prog 12 #[] wx fun e w' => e = .returned (.bool true) ∧ Below wx.heap.size wx w') := fun wx hb => awake15 D wx (D.keep _ _ hL hb)
  have KP : Hid (∀ wx, Below w.heap.size w wx → ∀ s : ByteArray, s.size ≤ 140737488351232 → Calls Tryd.prog 8 #[.string s] wx fun e w' => PrsE (prsP (bytesOf s)) e w' ∧ Below wx.heap.size wx w') := fun wx hb s hs => D.prs s hs wx (D.keep _ _ hL hb)
  have HL := hid hl
  have kb := D.bld l pk a b c d w hL hl hp hbd.1 hbd.2.1 hbd.2.2.1 hbd.2.2.2.1 hbd.2.2.2.2 hd
  clear D hL hl hp
  unfold BldE at kb
  by_cases hok : bldOk l pk
  case neg =>
    rw [bld_no hok] at kb
    clear hok hbd
    go_enter Tryd.func7, Tryd.ntmps7
    go_wp2_with fail
    refine kb.mono ?_
    rintro e w1 ⟨rfl, hb1⟩
    have H1 : Hid (Below w.heap.size w w1) := hb1
    clear hb1 kb
    go_wp2_with fail
    refine (KA.out w1 H1.out).mono ?_
    rintro e w2 ⟨rfl, hb2⟩
    have H2 : Hid (Below w.heap.size w w2) := below_on H1.out H1.out.size hb2
    clear hb2 KA
    go_wp2_with fail
    go_ret
    exact ⟨rfl, H2.out⟩

  case pos =>
    have hby := bld_yes hok
    rw [hby] at kb
    obtain ⟨e1, e2⟩ := bld_read _ _ _ hby
    have hpk : ∀ q ∈ pk.map bytesOf, ∀ x ∈ q, x < 256 := fun q hq => by
      obtain ⟨s, _, rfl⟩ := List.mem_map.1 hq
      exact bytesOf_lt s
    have hlt : ∀ x ∈ layAll l (pk.map bytesOf).flatten, x < 256 := layAll_lt _ _ (fun p hp => ⟨hok.2.1 p hp, lac_mem hok.1.1 p hp⟩) (flat_lt hpk)
    have hlen := layAll_len l (pk.map bytesOf).flatten
    have hsp := fun k y h1 h2 h3 h4 m q => bld_spoilt l (pk.map bytesOf) _ hpk hby k y h1 h2 h3 h4 m q
    have hB : (layAll l (pk.map bytesOf).flatten).length ≤ 40000000 := by
      have h1 := hbd.1
      have h2 := hbd.2.1
      have h3 := hbd.2.2.2.1
      omega
    have hne : (layAll l (pk.map bytesOf).flatten).length ≠ 0 := fun e => by
      unfold prsP at e2
      rw [if_pos e] at e2
      injection e2 with e3
      cases e3
    have hll : l.length ≤ 1000000000000 := by have := hbd.1; omega
    clear hok hby e1 e2 hpk hlen hbd
    generalize layAll l (pk.map bytesOf).flatten = S at *
    obtain ⟨n, hn⟩ : ∃ n, n = S.length := ⟨_, rfl⟩
    have hsz : (textOf S).size = n := by rw [S2.textOf_size, hn]
    obtain ⟨k, hk, hkk⟩ := place at_ n (by omega) (by omega)
    obtain ⟨y, hy⟩ : ∃ y, y = S.getD k 0 ^^^ 1 := ⟨_, rfl⟩
    obtain ⟨x, hx⟩ : ∃ x, x = S.getD k 0 := ⟨_, rfl⟩
    have hkl : k < S.length := by omega
    have hx256 : x < 256 := by
      rw [hx, List.getD_eq_getElem?_getD, List.getElem?_eq_getElem hkl]
      exact hlt _ (List.getElem_mem hkl)
    have hy256 : y < 256 := by rw [hy, ← hx]; exact Nat.xor_lt_two_pow (n := 8) hx256 (by decide)
    have hxor : bits .xor .u8 ((x : Nat) : Int) (1 : Int) = (y : Int) := by rw [hy, ← hx]; exact u8_xor_nat x 1 hx256 (by decide)
    have hney : y ≠ S.getD k 0 := fun e => by
      rw [hy] at e
      have h1 : S.getD k 0 ^^^ (S.getD k 0 ^^^ 1) = S.getD k 0 ^^^ S.getD k 0 := by rw [e]
      rw [← Nat.xor_assoc, Nat.xor_self, Nat.zero_xor] at h1
      cases h1
    have hLlt : ∀ z ∈ S.set k y, z < 256 := fun z hz => by
      rcases List.mem_or_eq_of_mem_set hz with h | h
      · exact hlt z h
      · rw [h]; exact hy256
    have hsp := hsp k y hkl hy256 hney hLlt
    have HBM : Hid (∀ wx : World, ∃ cap w', (convert 9 51 (.string (textOf S))).run Tryd.prog wx = .ok (.slice (some ⟨wx.heap.size, 0, none⟩) n cap) w' ∧ Buf wx.heap.size w' wx.heap.size cap S ∧ Below wx.heap.size wx w') := fun wx => by
      rw [hn]
      exact run_buf_make wx S hlt
    obtain ⟨S', hS'⟩ : ∃ S', S' = S.set k y := ⟨_, rfl⟩
    have hLn : S'.length = n := by rw [hS', List.length_set, hn]
    have HSE : Hid (∀ {wx : World} {g cap : Nat}, Buf g wx g cap S → wx.cell? ⟨g, k, none⟩ = some (.int .u8 (x : Int)) ∧ wx.frozen? ⟨g, k, none⟩ = false ∧ n ≤ cap ∧ Buf g (wx.setCell ⟨g, k, none⟩ (.int .u8 (y : Int))) g cap S') := fun h => by
      refine ⟨by rw [hx]; exact h.cells k hkl, (h.there k (Nat.lt_of_lt_of_le hkl h.room)).2, by rw [hn]; exact h.room, ?_⟩
      rw [hS']; exact h.set k y hkl
    rw [← hS'] at hsp hLlt
    have hbt : bytesOf (textOf S') = S' := S2.bytesOf_textOf S' hLlt
    have hem := ex_empty (textOf S) (by rw [hsz, hn]; exact hne)
    have KQ : Hid (∀ wx, Below w.heap.size w wx → Calls Tryd.prog 8 #[.string (textOf S')] wx fun e w' => PrsE (prsP S') e w' ∧ Below wx.heap.size wx w') := fun wx hb => by
      have h := KP.out wx hb (textOf S') (by rw [S2.textOf_size, hLn]; omega)
      rw [hbt] at h
      exact h
    have HPL := hid (prsP_len S')
    have HSP : Hid (∀ m q, prsP S' = (0, m, q) → l.map Pg.la = m.map Pg.la → False) := fun m q => hsp m q
    clear hlt hne hx hy hkl hx256 hy256 hney hLlt hsp hS' hbt KP hn hsz
    generalize prsP S' = r at *
    have HT : Hid (textOf S = textOf S) := rfl
    generalize hT : textOf S = T at *
    go_enter Tryd.func7, Tryd.ntmps7
    go_wp2_with fail
    refine kb.mono ?_
    rintro e w1 ⟨rfl, hb1⟩
    have H1 : Hid (Below w.heap.size w w1) := hb1
    clear hb1 kb
    obtain ⟨cap, w3, hrun, hbuf, hb3⟩ := HBM.out w1
    obtain ⟨hcell, hth, hcap, hset⟩ := HSE.out hbuf
    have H3 : Hid (Below w.heap.size w (w3.setCell ⟨w1.heap.size, k, none⟩ (.int .u8 (y : Int)))) := (below_on H1.out H1.out.size hb3).setCell H1.out.size _
    have HC3 : Hid ((convert 51 9 (.slice (some ⟨w1.heap.size, 0, none⟩) n cap)).run Tryd.prog (w3.setCell ⟨w1.heap.size, k, none⟩ (.int .u8 (y : Int))) = .ok (.string (textOf S')) (w3.setCell ⟨w1.heap.size, k, none⟩ (.int .u8 (y : Int)))) := run_buf_text hset n hLn.symm
    clear hbuf hset hb3 HBM HSE
    go_upto_region 7 with fail
    generalize hws : World.setCell _ _ _ = w4 at *
    clear hws hrun hcell hth
    have hcv := HC3.out
    have kq := KQ.out w4 H3.out
    have H4 : Hid (PgsAt w4 a l) := HL.out.below H3.out
    go_wp2_with fail
    refine kq.mono ?_
    rintro e w5 ⟨⟨ao, pc, bo, kc, rfl, h1, h2, _, _, _, _⟩, hb5⟩
    have H5 : Hid (Below w.heap.size w w5) := below_on H3.out H3.out.size hb5
    have H6 : Hid (PgsAt w5 a l ∧ PgsAt w5 ao r.2.1) := ⟨H4.out.below hb5, h1⟩
    clear h1 h2 hb5 kq hcv HC3 KQ H4
    by_cases hz : r.1 = 0
    case neg =>
      have h1 : (r.1 != 0) = true := by rw [bne_iff_ne]; exact hz
      clear hz H6
      go_wp2_with fail
      refine (KA.out w5 H5.out).mono ?_
      rintro e w6 ⟨rfl, hb7⟩
      have H7 : Hid (Below w.heap.size w w6) := below_on H5.out H5.out.size hb7
      clear hb7 KA
      go_wp2_with fail
      go_ret
      exact ⟨rfl, H7.out⟩

    case pos =>
      have h1 : (r.1 != 0) = false := by rw [bne_eq_false_iff_eq]; exact hz
      have hd : decide (l.map Pg.la = r.2.1.map Pg.la) = false := decide_eq_false fun e => HSP.out r.2.1 r.2.2 (by rw [← hz]) e
      have kc2 := laced_any l r.2.1 a ao c pc w5 H6.out.1 H6.out.2 hll HPL.out
      rw [hd] at kc2
      clear hz H6 hd
      go_wp2_with fail
      refine kc2.mono ?_
      rintro e w6 ⟨rfl, hb6⟩
      have H8 : Hid (Below w.heap.size w w6) := below_on H5.out H5.out.size hb6
      clear hb6 kc2
      go_wp2_with fail
      refine (KA.out w6 H8.out).mono ?_
      rintro e w7 ⟨rfl, hb9⟩
      have H9 : Hid (Below w.heap.size w w7) := below_on H8.out H8.out.size hb9
      clear hb9 KA
      go_wp2_with fail
      go_ret
      exact ⟨rfl, H9.out⟩


end Go.Proofs.YtjkamannjgcmiaaDoor

namespace Go.Proofs.YtjkamannjgcmiaaDoor
open Go.RowKit
set_option linter.unusedSimpArgs false
set_option linter.unusedVariables false

theorem bld_has {l : List Pg} {pk : List (List Nat)} {t : List Nat} (h : bldP l pk = (0, t)) : fitOk l pk ∧ ∀ p ∈ l, numOk p := by
  unfold bldP at h
  split at h
  · rename_i hc
    exact ⟨hc.1, hc.2.1⟩
  · injection h with h1 _
    cases h1
theorem fit_len {l : List Pg} {pk : List (List Nat)} (h : fitOk l pk) : pk.flatten.length = (natL (lacesL l)).sum := by
  rw [flat_len, ← h.2.2, siz_sum _ 0 (by simpa using h.2.1), Nat.zero_add]
theorem lay_has : ∀ (t : List Pg) (B : List Nat), B.length = (natL (lacesL t)).sum → ∀ x ∈ B, x ∈ layAll t B
  | [], B, h, x, hx => by
    have : B = [] := List.eq_nil_of_length_eq_zero (by rw [h]; rfl)
    rw [this] at hx
    exact hx
  | p :: t, B, h, x, hx => by
    have e : (natL (lacesL (p :: t))).sum = (natL p.la).sum + (natL (lacesL t)).sum := by
      show (natL (p.la ++ lacesL t)).sum = _
      rw [natL_app, List.sum_append]
    show x ∈ layP p _ ++ layAll t _
    rw [← List.take_append_drop (natL p.la).sum B] at hx
    rcases List.mem_append.1 hx with hx | hx
    · refine List.mem_append.2 (.inl ?_)
      unfold layP tlG
      simp [hx]
    · exact List.mem_append.2 (.inr (lay_has t _ (by rw [List.length_drop]; omega) x hx))
theorem lay_len : ∀ (t : List Pg) (B : List Nat), B.length = (natL (lacesL t)).sum → (layAll t B).length = 27 * t.length + (lacesL t).length + B.length
  | [], B, h => by rw [h]; rfl
  | p :: t, B, h => by
    have e : (natL (lacesL (p :: t))).sum = (natL p.la).sum + (natL (lacesL t)).sum := by
      show (natL (p.la ++ lacesL t)).sum = _
      rw [natL_app, List.sum_append]
    have h1 := lay_len t (B.drop (natL p.la).sum) (by rw [List.length_drop]; omega)
    show (layP p _ ++ layAll t _).length = 27 * (t.length + 1) + (p.la ++ lacesL t).length + B.length
    rw [List.length_append, layP_length, List.length_append, h1, List.length_take, List.length_drop]
    omega
/-- What a text that was read holds: its bytes are bytes, and it is no longer than it is. -/
theorem read_has (s : List Nat) (h256 : ∀ b ∈ s, b < 256) (l : List Pg) (pk : List (List Nat)) (h : prsP s = (0, l, pk)) : (∀ q ∈ pk, ∀ b ∈ q, b < 256) ∧ 27 * l.length + (lacesL l).length + pk.flatten.length = s.length ∧ ∀ p ∈ l, numOk p := by
  obtain ⟨g1, g2⟩ := read_bld s h256 l pk h
  obtain ⟨f1, f2⟩ := bld_has g1
  have f3 := fit_len f1
  refine ⟨fun q hq b hb => h256 b ?_, ?_, f2⟩
  · rw [g2]
    exact lay_has _ _ f3 b (List.mem_flatten.2 ⟨q, hq, hb⟩)
  · rw [g2, lay_len _ _ f3]
theorem prs_no : ∀ (f : Nat) (R : List Nat) (P : List Pg) (K : List (List Nat)) (op : Bool) (hd : List Nat), ¬ (prs f R P K op hd).1 = 0 → (prs f R P K op hd).2 = ([], [])
  | 0, _, _, _, _, _, _ => rfl
  | f + 1, R, P, K, op, hd, h => by
    rw [prs] at h ⊢
    split
    · rename_i h0
      rw [if_pos h0] at h
      unfold finP at h ⊢
      split
      · rename_i h1
        rw [if_pos h1] at h
        exact absurd rfl h
      · rfl
    · rename_i h0
      rw [if_neg h0] at h
      split
      · rename_i h1
        rw [if_pos h1] at h
        exact prs_no f _ _ _ _ _ h
      · rfl
theorem prsP_no (L : List Nat) (h : ¬ (prsP L).1 = 0) : (prsP L).2 = ([], []) := by
  unfold prsP at h ⊢
  split
  · rfl
  · rename_i h0
    rw [if_neg h0] at h
    exact prs_no _ _ _ _ _ _ h

end Go.Proofs.YtjkamannjgcmiaaDoor

namespace Go.Proofs.YtjkamannjgcmiaaDoor
open Go.RowKit
set_option linter.unusedSimpArgs false
set_option linter.unusedVariables false

theorem bd_of (s : List Nat) (h256 : ∀ b ∈ s, b < 256) (hn : s.length ≤ 1048576) (l : List Pg) (pk : List (List Nat)) (h : prsP s = (0, l, pk)) : (pk.map textOf).map bytesOf = pk ∧ Bd l (pk.map textOf) := by
  obtain ⟨h1, h2, h3⟩ := read_has s h256 l pk h
  have e : (pk.map textOf).map bytesOf = pk := by
    rw [List.map_map]
    refine Eq.trans (List.map_congr_left (g := id) fun q hq => ?_) (List.map_id _)
    exact S2.bytesOf_textOf q (h1 q hq)
  have hk := prsP_pkn s
  rw [h] at hk
  refine ⟨e, ?_, ?_, ?_, ?_, fun p hp => (h3 p hp).2.1.2⟩
  · omega
  · omega
  · rw [List.length_map]; exact Nat.le_trans hk hn
  · rw [e]; omega
set_option maxRecDepth 20000 in
set_option maxHeartbeats 3200000 in
theorem back15 {L : World → Prop} (D : Does15 L) (l : List Pg) (pk : List ByteArray) (a b : Option Addr) (c d : Nat) (s : ByteArray) (hs : s.size ≤ 1048576) (w : World) (hL : L w) (hl : PgsAt w a l) (hp : StrsAt w b pk) (hbd : Bd l pk) (hd : pk.length ≤ d) : Calls Tryd.prog 5 #[.slice a l.length c, .slice b pk.length d, .string s] w fun e w' => e = .returned (.bool true) ∧ Below w.heap.size w w' := by
  have KA : Hid (∀ wx, Below w.heap.size w wx → Calls Tryd.prog 12 #[] wx fun e w' => e = .returned (.bool true) ∧ Below wx.heap.size wx w') := fun wx hb => awake15 D wx (D.keep _ _ hL hb)
  have KP : Hid (∀ wx, Below w.heap.size w wx → ∀ s : ByteArray, s.size ≤ 140737488351232 → Calls Tryd.prog 8 #[.string s] wx fun e w' => PrsE (prsP (bytesOf s)) e w' ∧ Below wx.heap.size wx w') := fun wx hb s hs => D.prs s hs wx (D.keep _ _ hL hb)
  have KB : Hid (∀ wx, Below w.heap.size w wx → ∀ (l : List Pg) (pk : List ByteArray) (a b : Option Addr) (c d : Nat), PgsAt wx a l → StrsAt wx b pk → Bd l pk → pk.length ≤ d → Calls Tryd.prog 13 #[.slice a l.length c, .slice b pk.length d] wx fun e w' => BldE l pk e ∧ Below wx.heap.size wx w') := fun wx hb l pk a b c d h1 h2 h3 h4 => D.bld l pk a b c d wx (D.keep _ _ hL hb) h1 h2 h3.1 h3.2.1 h3.2.2.1 h3.2.2.2.1 h3.2.2.2.2 h4
  have HL := hid hl
  have HP := hid hp
  have kb := KB.out w (Below.refl _ _) l pk a b c d hl hp hbd hd
  have HPS : Hid (∀ wx, Below w.heap.size w wx → Calls Tryd.prog 8 #[.string s] wx fun e w' => PrsE (prsP (bytesOf s)) e w' ∧ Below wx.heap.size wx w') := fun wx hb => KP.out wx hb s (by omega)
  have HR : Hid ((¬ (prsP (bytesOf s)).1 = 0 → (prsP (bytesOf s)).2.1 = [] ∧ (prsP (bytesOf s)).2.2 = []) ∧ ((prsP (bytesOf s)).1 = 0 → Bd (prsP (bytesOf s)).2.1 ((prsP (bytesOf s)).2.2.map textOf) ∧ bldP (prsP (bytesOf s)).2.1 (((prsP (bytesOf s)).2.2.map textOf).map bytesOf) = (0, bytesOf s))) := by
    refine ⟨fun h => ?_, fun h => ?_⟩
    · rw [prsP_no _ h]; exact ⟨rfl, rfl⟩
    · have e : prsP (bytesOf s) = (0, (prsP (bytesOf s)).2.1, (prsP (bytesOf s)).2.2) := by rw [← h]
      obtain ⟨h1, h2⟩ := bd_of _ (bytesOf_lt s) (by rw [bytesOf_length]; exact hs) _ _ e
      refine ⟨h2, ?_⟩
      rw [h1]
      exact (read_bld _ (bytesOf_lt s) _ _ e).1
  clear D hL hl hp
  generalize prsP (bytesOf s) = r at *
  obtain ⟨E, P, K⟩ := r
  unfold BldE at kb
  by_cases hok : bldOk l pk
  case neg =>
    rw [bld_no hok] at kb
    clear hok hbd
    go_enter Tryd.func5, Tryd.ntmps5
    go_wp2_with fail
    refine kb.mono ?_
    rintro e w1 ⟨rfl, hb1⟩
    have H1 : Hid (Below w.heap.size w w1) := hb1
    clear hb1 kb
    have kp := HPS.out w1 H1.out
    by_cases hE : E = 0
    case neg =>
      obtain ⟨rfl, rfl⟩ := HR.out.1 hE
      have hE1 : (E != 0) = true := by rw [bne_iff_ne]; exact hE
      clear hE
      go_wp2_with fail
      refine kp.mono ?_
      rintro e z1 ⟨⟨ao, pc, bo, kc, rfl, h1, h2, _, _, _, _⟩, hb1⟩
      have HT1 : Hid (Below w.heap.size w z1) := below_on H1.out H1.out.size hb1
      clear h1 h2 hb1 kp
      go_wp2_with fail
      refine (KA.out z1 HT1.out).mono ?_
      rintro e z2 ⟨rfl, hbT2⟩
      have HT2 : Hid (Below w.heap.size w z2) := below_on HT1.out HT1.out.size hbT2
      clear hbT2 KA
      go_wp2_with fail
      go_ret
      exact ⟨rfl, HT2.out⟩
    case pos =>
      subst hE
      obtain ⟨hbd2, hby2⟩ := HR.out.2 rfl
      have HBD := hid hbd2
      go_wp2_with fail
      refine kp.mono ?_
      rintro e z1 ⟨⟨ao, pc, bo, kc, rfl, h1, h2, _, hkc, _, _⟩, hb1⟩
      have HT1 : Hid (Below w.heap.size w z1) := below_on H1.out H1.out.size hb1
      have kb2 := KB.out z1 HT1.out P (K.map textOf) ao bo pc kc h1 h2 hbd2 (by rw [List.length_map]; exact hkc)
      unfold BldE at kb2
      rw [hby2, List.length_map, S2.textOf_bytesOf] at kb2
      clear h1 h2 hb1 kp hbd2 hby2 hkc
      go_wp2_with fail
      refine kb2.mono ?_
      rintro e z2 ⟨rfl, hb2⟩
      have HT2 : Hid (Below w.heap.size w z2) := below_on HT1.out HT1.out.size hb2
      clear hb2 kb2
      go_wp2_with fail
      refine (KA.out z2 HT2.out).mono ?_
      rintro e z3 ⟨rfl, hbT3⟩
      have HT3 : Hid (Below w.heap.size w z3) := below_on HT2.out HT2.out.size hbT3
      clear hbT3 KA
      go_wp2_with fail
      go_ret
      exact ⟨rfl, HT3.out⟩

  case pos =>
    have hby := bld_yes hok
    rw [hby] at kb
    obtain ⟨e1, e2⟩ := bld_read _ _ _ hby
    have hpk : ∀ q ∈ pk.map bytesOf, ∀ x ∈ q, x < 256 := fun q hq => by
      obtain ⟨s, _, rfl⟩ := List.mem_map.1 hq
      exact bytesOf_lt s
    have hlt : ∀ x ∈ layAll l (pk.map bytesOf).flatten, x < 256 := layAll_lt _ _ (fun p hp => ⟨hok.2.1 p hp, lac_mem hok.1.1 p hp⟩) (flat_lt hpk)
    have hlen := layAll_len l (pk.map bytesOf).flatten
    have hB : (layAll l (pk.map bytesOf).flatten).length ≤ 40000000 := by
      have h1 := hbd.1
      have h2 := hbd.2.1
      have h3 := hbd.2.2.2.1
      omega
    have hbt : bytesOf (textOf (layAll l (pk.map bytesOf).flatten)) = layAll l (pk.map bytesOf).flatten := S2.bytesOf_textOf _ hlt
    have KQ : Hid (∀ wx, Below w.heap.size w wx → Calls Tryd.prog 8 #[.string (textOf (layAll l (pk.map bytesOf).flatten))] wx fun e w' => PrsE (0, l, pk.map bytesOf) e w' ∧ Below wx.heap.size wx w') := fun wx hb => by
      have h := KP.out wx hb (textOf (layAll l (pk.map bytesOf).flatten)) (by rw [S2.textOf_size]; omega)
      rw [hbt, e2] at h
      exact h
    have HBD := hid hbd
    clear hok hby e1 e2 hpk hlen hlt hbt hB KP hbd
    generalize textOf (layAll l (pk.map bytesOf).flatten) = T at *
    go_enter Tryd.func5, Tryd.ntmps5
    go_wp2_with fail
    refine kb.mono ?_
    rintro e w1 ⟨rfl, hb1⟩
    have H1 : Hid (Below w.heap.size w w1) := hb1
    clear hb1 kb
    have kq := KQ.out w1 H1.out
    go_wp2_with fail
    refine kq.mono ?_
    rintro e w2 ⟨⟨ao, pc, bo, kc, he, h1, h2, _, _, _, _⟩, hb2⟩
    have H2 : Hid (Below w.heap.size w w2 ∧ PgsAt w2 a l ∧ StrsAt w2 b pk ∧ PgsAt w2 ao l ∧ StrsAt w2 bo pk) := by
      have h := below_on H1.out H1.out.size hb2
      rw [text_bytes] at h2
      exact ⟨h, HL.out.below h, HP.out.below h, h1, h2⟩
    have he : e = .returned (.tuple #[.slice ao l.length pc, .slice bo pk.length kc, .int .i64 0]) := by rw [he]; simp only [List.length_map]
    subst he
    clear h1 h2 hb2 kq KQ H1
    have ks := pages_same l a ao c pc w2 H2.out.2.1 H2.out.2.2.2.1 (by have := HBD.out.1; omega)
    go_wp2_with fail
    refine ks.mono ?_
    rintro e w3 ⟨rfl, hb3⟩
    have H3 : Hid (Below w.heap.size w w3) := below_on H2.out.1 H2.out.1.size hb3
    have kt := texts_same pk b bo d kc w3 (H2.out.2.2.1.below hb3) (H2.out.2.2.2.2.below hb3) (by have := HBD.out.2.2.1; omega)
    clear ks hb3 H2
    go_wp2_with fail
    refine kt.mono ?_
    rintro e w4 ⟨rfl, hb4⟩
    have H4 : Hid (Below w.heap.size w w4) := below_on H3.out H3.out.size hb4
    clear kt hb4 H3
    have kp := HPS.out w4 H4.out
    by_cases hE : E = 0
    case neg =>
      obtain ⟨rfl, rfl⟩ := HR.out.1 hE
      have hE1 : (E != 0) = true := by rw [bne_iff_ne]; exact hE
      clear hE
      go_wp2_with fail
      refine kp.mono ?_
      rintro e z1 ⟨⟨ao, pc, bo, kc, rfl, h1, h2, _, _, _, _⟩, hb1⟩
      have HT1 : Hid (Below w.heap.size w z1) := below_on H4.out H4.out.size hb1
      clear h1 h2 hb1 kp
      go_wp2_with fail
      refine (KA.out z1 HT1.out).mono ?_
      rintro e z2 ⟨rfl, hbT2⟩
      have HT2 : Hid (Below w.heap.size w z2) := below_on HT1.out HT1.out.size hbT2
      clear hbT2 KA
      go_wp2_with fail
      go_ret
      exact ⟨rfl, HT2.out⟩
    case pos =>
      subst hE
      obtain ⟨hbd2, hby2⟩ := HR.out.2 rfl
      have HBD := hid hbd2
      go_wp2_with fail
      refine kp.mono ?_
      rintro e z1 ⟨⟨ao, pc, bo, kc, rfl, h1, h2, _, hkc, _, _⟩, hb1⟩
      have HT1 : Hid (Below w.heap.size w z1) := below_on H4.out H4.out.size hb1
      have kb2 := KB.out z1 HT1.out P (K.map textOf) ao bo pc kc h1 h2 hbd2 (by rw [List.length_map]; exact hkc)
      unfold BldE at kb2
      rw [hby2, List.length_map, S2.textOf_bytesOf] at kb2
      clear h1 h2 hb1 kp hbd2 hby2 hkc
      go_wp2_with fail
      refine kb2.mono ?_
      rintro e z2 ⟨rfl, hb2⟩
      have HT2 : Hid (Below w.heap.size w z2) := below_on HT1.out HT1.out.size hb2
      clear hb2 kb2
      go_wp2_with fail
      refine (KA.out z2 HT2.out).mono ?_
      rintro e z3 ⟨rfl, hbT3⟩
      have HT3 : Hid (Below w.heap.size w z3) := below_on HT2.out HT2.out.size hbT3
      clear hbT3 KA
      go_wp2_with fail
      go_ret
      exact ⟨rfl, HT3.out⟩

end Go.Proofs.YtjkamannjgcmiaaDoor
