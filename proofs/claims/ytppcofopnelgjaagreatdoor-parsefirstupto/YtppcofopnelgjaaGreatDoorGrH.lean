import Derived.Test.YtppcofopnelgjaaGreatDoorGrF
import Derived.Test.YtppcofopnelgjaaGreatDoorGrG
set_option linter.unusedVariables false
set_option linter.unusedSimpArgs false
namespace Go.Proofs.YtppcofopnelgjaaGreatDoor
open Go.RowKit
set_option maxRecDepth 100000 in
set_option maxHeartbeats 8000000 in
theorem decl_bad {I : R.Src} {ao : Option Addr} {cap b i : Nat} {w : World} (h : Rdr I ao cap b i w) (j : Nat) (c : Int) (hb : I.begin i = .bad j c) :
    Calls Tryz.prog 59 #[.pointer (some ⟨b, 0, none⟩)] w fun e w' => RdIs I ao cap b (I.decl i) (encD w.heap.size) w e w' := by
  have hd : I.decl i = .bad j c := by unfold R.Src.decl; rw [hb]; rfl
  rw [hd]
  have H := hide' h
  have lt := h.lt
  have HB := hide' fun w (h : Rdr I ao cap b i w) => begin_any h
  rw [hb] at HB
  unfold RdIs at HB ⊢
  simp only at HB ⊢
  clear h hb hd
  go_enter Tryz.func59, Tryz.ntmps59
  go_wp2_with (go_at_call 77; refine (HB.out _ (H.out.alloc _)).mono ?_; rintro e w1 ⟨rfl, ht1⟩)
  exact ⟨rfl, rfl, ((Turn.refl _ _).alloc _).trans ht1⟩
theorem decl_any {I : R.Src} {ao : Option Addr} {cap b i B : Nat} {w : World} (h : Rdr I ao cap b i w) (hT : TbB B w) (hB : B ≤ b) :
    Calls Tryz.prog 59 #[.pointer (some ⟨b, 0, none⟩)] w fun e w' => RdIs I ao cap b (I.decl i) (encD w.heap.size) w e w' := by
  cases hb : I.begin i with
  | bad j c => exact decl_bad h j c hb
  | ok d j =>
    obtain ⟨hd, hj⟩ := R.begin_ok hb
    rw [hd] at hb
    generalize d.kind = kd at *
    generalize d.line = tl at *
    generalize d.col = tc at *
    by_cases k2 : kd = 2
    · exact decl_subject h hT hB kd tl tc j hb k2
    by_cases k6 : kd = 6 ∨ kd = 7 ∨ kd = 8 ∨ kd = 9
    · exact decl_pair h hT hB kd tl tc j hb k6
    by_cases k10 : kd = 10 ∨ kd = 11
    · exact decl_rule h hT hB kd tl tc j hb k10
    by_cases k12 : kd = 12
    · exact decl_except h hT hB kd tl tc j hb k12
    exact decl_else h hT hB kd tl tc j hb (by omega)
end Go.Proofs.YtppcofopnelgjaaGreatDoor
set_option linter.unusedVariables false
set_option linter.unusedSimpArgs false
namespace Go.Proofs.YtppcofopnelgjaaGreatDoor
open Go.RowKit
def encT (B : Nat) : List R.Dc → World → Value → Prop := fun l w v => ∃ ps : List (R.Dc × Value), l = ps.map Prod.fst ∧ Dcs B ps v w
set_option maxRecDepth 100000 in
set_option maxHeartbeats 8000000 in
theorem text_any {I : R.Src} {ao : Option Addr} {cap b B : Nat} {w : World} (h : Rdr I ao cap b 0 w) (hT : TbB B w) (hB : B ≤ b) (F : Nat) (hF : I.l.length < F) :
    Calls Tryz.prog 38 #[.pointer (some ⟨b, 0, none⟩)] w fun e w' => RdIs I ao cap b (I.text F [] 0) (encT w.heap.size) w e w' := by
  have H := hide' (And.intro h hT)
  have lt := h.lt
  obtain ⟨tgt, htgt⟩ : ∃ tgt, I.text F [] 0 = tgt := ⟨_, rfl⟩
  rw [htgt]
  have Ht := hide' (And.intro htgt hF)
  clear h hT htgt hF
  have hi59 := info59
  cases hq59 : Tryz.prog.info? 59 with
  | none => simp [hq59] at hi59
  | some i0 =>
  obtain ⟨hz0, hz1, hz2⟩ : i0.zero = some (.agg dz.toArray) ∧ i0.size = 13 ∧ i0.bytes = 128 := by simpa [hq59] using hi59
  have Hz := hide' (And.intro hq59 (And.intro hz0 (And.intro hz1 hz2)))
  clear hi59 hq59 hz0 hz1 hz2
  go_enter Tryz.func38, Tryz.ntmps38
  go_wp2
  go_loopw [3] (fun v wx => ∃ (k f : Nat) (ps : List (R.Dc × Value)), Rdr I ao cap b k wx ∧ Turn (fun k => k = b) w wx ∧ Dcs w.heap.size ps v wx ∧ I.text f (ps.map Prod.fst) k = tgt ∧ I.l.length < k + f ∧ ps.length ≤ k) (fun _ wx => I.l.length + 1 - atOf b wx)
  case atStart => exact ⟨0, F, [], H.out.1, Turn.refl _ _, Dcs.nil _ _, Ht.out.1, by have := Ht.out.2; omega, by simp⟩
  case round =>
    obtain ⟨k, f, ps, hr, ht, hrow, hm, hkf, hak⟩ := hrel
    have hkl := hr.le
    have hat := atOf_of hr
    have hfew := hr.ok.few
    have AE := hide' (atEnd_any hr)
    have HR := hide' (And.intro hr (And.intro ht (And.intro hrow (And.intro H.out.1 hfew))))
    have HTk := hide' (H.out.2.one hB ht)
    clear hr ht hrow hfew
    by_cases hlt : k < I.l.length
    · have e1 : ((k : Int) == (I.l.length : Int)) = false := by simp; omega
      rw [e1] at AE
      obtain ⟨f', rfl⟩ : ∃ f', f = f' + 1 := ⟨f - 1, by omega⟩
      have HD := hide' fun w (h : Rdr I ao cap b k w) (hT : TbB B w) => decl_any h hT hB
      cases hn : I.decl k with
      | bad j' c =>
        have e : tgt = .bad j' c := hm.symm.trans (R.text_bad hlt hn)
        clear hm
        subst e
        rw [hn] at HD
        unfold RdIs at HD
        simp only at HD
        go_wp2_with (first | (go_at_call 58; refine AE.out.mono ?_; rintro e w2 ⟨rfl, b2⟩) | (go_at_call 59; refine (HD.out _ (HR.out.1.below b2) (HTk.out.below b2)).mono ?_; rintro e w3 ⟨rfl, ht3⟩))
        refine ⟨rfl, ?_⟩
        unfold RdIs
        exact ⟨rfl, (HR.out.2.1.trans (turn_below b2)).trans ht3⟩
      | ok d j' =>
        have hj' := R.decl_lt hn
        have e : I.text f' (ps.map Prod.fst ++ [d]) j' = tgt := (R.text_on hlt hn).symm.trans hm
        clear hm
        rw [hn] at HD
        unfold RdIs encD dl at HD
        simp only at HD
        have b1' : Hid (ps.length + 1 ≤ maxLen) := (show ps.length + 1 ≤ maxLen by have := HR.out.2.2.2.2; unfold R.lim at this; unfold maxLen; omega)
        have b2' : Hid ((ps.length + 1) * 128 ≤ 140737488355328) := (show (ps.length + 1) * 128 ≤ 140737488355328 by have := HR.out.2.2.2.2; unfold R.lim at this; omega)
        have He := hide' e
        clear e
        go_wp2_with (first | (go_at_call 58; refine AE.out.mono ?_; rintro e w2 ⟨rfl, b2⟩) | (go_at_call 59; refine (HD.out _ (HR.out.1.below b2) (HTk.out.below b2)).mono ?_; rintro e w3 ⟨⟨v3, rfl, sv, rfl, hsv⟩, hr3, ht3⟩; obtain ⟨sa, sc, rfl⟩ := row_form hsv; have q2 := HR.out.2.2.1.turn (turn_below (S := fun _ => False) b2) (fun k _ q => q); have q3 := q2.turn ht3 (fun k q e => by omega); have z2 := (HR.out.2.1.trans (turn_below b2)).size; have z3 := ht3.size; have R3 := hide' (And.intro hr3 (And.intro ((HR.out.2.1.trans (turn_below b2)).trans ht3) (And.intro hsv (And.intro q2 q3)))); clear hr3 ht3 hsv q2 q3) | (at_builtin; refine wpList_append_lies _ rfl _ _ 23 rfl w.heap.size 59 i0 _ 13 128 Tryz.underlying23 Hz.out.1 Hz.out.2.1 Hz.out.2.2.1 Hz.out.2.2.2 rfl (by decide) _ _ _ rfl (R3.out.2.2.2.2.row.alloc _) ⟨w3.heap.size, 0, none⟩ 1 1 (dl d (.slice sa d.names.length sc)) rfl rfl (news13 _ _ _) (by simp [dl, Value.oneCell']) (by decide) b1'.out b2'.out (by simp; omega) _ rfl ?_; intro g cp w4 hrow4 hgrow4 hat4 hlt4))
        replace hgrow4 : (w3.alloc (.cells (dl d (.slice sa d.names.length sc)).toArray 59)).grownBy w4 u3.ownBlock := hgrow4
        clear hat4
        have tg : Turn (fun k => w.heap.size ≤ k) (w3.alloc (.cells (dl d (.slice sa d.names.length sc)).toArray 59)) w4 := (Turn.refl _ _).grown hgrow4 (fun k hk _ => (R3.out.2.2.2.2.row.lt k hk).1)
        have hr4 := (R3.out.1.alloc (.cells (dl d (.slice sa d.names.length sc)).toArray 59)).newS HR.out.2.2.2.1 (fun k q => q) tg
        have hd4 := R3.out.2.2.2.1.app z2 R3.out.2.2.2.2 R3.out.2.2.1 hrow4 hgrow4
        refine ⟨⟨j', f', ps ++ [(d, .slice sa d.names.length sc)], hr4, (R3.out.2.1.alloc _).then tg (fun k hk q => by omega), ?_, ?_, by omega, by simp; omega⟩, ?_⟩
        · simpa using hd4
        · simpa using He.out
        · rw [atOf_of hr4, hat]; omega
    · have e1 : ((k : Int) == (I.l.length : Int)) = true := by simp; omega
      rw [e1] at AE
      have e : tgt = .ok (ps.map Prod.fst) k := hm.symm.trans (R.text_end hlt)
      clear hm
      subst e
      go_wp2_with (go_at_call 58; refine AE.out.mono ?_; rintro e w2 ⟨rfl, b2⟩)
      go_ret
      unfold RdIs encT
      exact ⟨⟨_, rfl, ps, rfl, HR.out.2.2.1.turn (turn_below (S := fun _ => False) b2) (fun k _ q => q)⟩, HR.out.1.below b2, HR.out.2.1.trans (turn_below b2)⟩
end Go.Proofs.YtppcofopnelgjaaGreatDoor
