import Derived.Test.YtbgjggblaeadlaaRiW
set_option linter.unusedVariables false
set_option linter.unusedSimpArgs false
namespace Go.Proofs.Ytbgjggblaeadlaa
open Go.RowKit
namespace X
open C F
theorem ints_take {w : World} {a : Option Addr} {zs : List Int} (h : Ints w a zs) (n : Nat) : Ints w a (zs.take n) := by
  rcases h with h | ⟨b, off, ha, hb, hc⟩
  · exact .inl (by rw [h]; simp)
  · refine .inr ⟨b, off, ha, hb, fun j hj => ?_⟩
    rw [List.length_take] at hj
    rw [hc j (by omega)]
    simp [List.getD, List.getElem?_take_of_lt (show j < n by omega)]
theorem drop_pred {l : List Int} {p : Nat} {x : Int} (h : l[p]? = some x) : l.drop p = x :: l.drop (p + 1) := by
  have hp := (List.getElem?_eq_some_iff.1 h).1
  rw [List.drop_eq_getElem_cons hp, (List.getElem?_eq_some_iff.1 h).2]
/-- what falls so far falls on -/
theorem fall_on {D : List Int} {x : Int} (h : D.Pairwise (· ≥ ·)) (hm : D.headD (-1) ≤ x) : (x :: D).Pairwise (· ≥ ·) := by
  refine List.pairwise_cons.2 ⟨fun v hv => ?_, h⟩
  cases D with
  | nil => simp at hv
  | cons d D' =>
    have hd : d ≤ x := hm
    rcases List.mem_cons.1 hv with rfl | hv
    · exact hd
    · have := (List.pairwise_cons.1 h).1 v hv
      show v ≤ x
      have : v ≤ d := this
      omega
theorem er_in {T : List Int} {m v : Int} (h : m ∈ T) : (T ++ [v]).erase m = T.erase m ++ [v] := by rw [List.erase_append, if_pos h]
theorem er_new {T : List Int} {m : Int} (h : m ∉ T) : (T ++ [m]).erase m = T ∧ T.erase m = T := by
  rw [List.erase_append, if_neg h, List.erase_of_not_mem h]; simp
theorem er_out {T : List Int} {m v : Int} (h : m ∉ T) (hv : v ≠ m) : (T ++ [v]).erase m = T ++ [v] := by
  rw [List.erase_of_not_mem]
  simp [h]
  exact fun e => hv e.symm
/-- the list without one m, in the making -/
structure Lf (w : World) (T : List Int) (m : Int) (ro : Option Addr) (rc : Nat) (wx : World) : Prop where
  g : Gr w.heap.size (T.erase m) ro rc wx
  b : Below w.heap.size w wx
/-- what Next tells -/
def NxE (w : World) (l : List Int) (e : Ending) (w' : World) : Prop := ∃ ro n rc b, e = .returned (.tuple #[.slice ro n rc, .bool b]) ∧ Below w.heap.size w w' ∧ ((b = false ∧ Falls l (-1)) ∨ (b = true ∧ ∃ l', n = l'.length ∧ Nx l l' ∧ Gr w.heap.size l' ro rc w'))
theorem NxE.no {w : World} {l : List Int} (h : Falls l (-1)) : NxE w l (.returned (.tuple #[.slice none 0 0, .bool false])) w := ⟨none, 0, 0, false, rfl, Below.refl _ _, .inl ⟨rfl, h⟩⟩
theorem NxE.yes {w w' : World} {l l' : List Int} {ro : Option Addr} {n rc : Nat} (hn : n = l'.length) (h : Nx l l') (hg : Gr w.heap.size l' ro rc w') (hb : Below w.heap.size w w') : NxE w l (.returned (.tuple #[.slice ro n rc, .bool true])) w' := ⟨ro, n, rc, true, rfl, hb, .inr ⟨rfl, l', hn, h, hg⟩⟩
set_option maxRecDepth 100000 in
set_option maxHeartbeats 8000000 in
theorem next_any (a : Option Addr) (c : Nat) (l : List Int) (w : World) (hI : Ints w a l) (hl : l.length ≤ 1048576) (hv : ∀ v ∈ l, 0 ≤ v ∧ v < 64) (hcap : l.length ≤ c) (hn : a = none → c = 0) : Calls Try.prog 50 #[.slice a l.length c] w fun e w' => NxE w l e w' := by
  have HI := hide' (fun w' (b : Below w.heap.size w w') => hI.below b)
  have HL := hide' (And.intro hl (And.intro hv (And.intro hcap hn)))
  have e0 : wrap64 ((l.length : Int) - 1) = (l.length : Int) - 1 := wrap_in (by omega) (by omega)
  clear hI hl hv hcap hn
  go_enter Try.func50, Try.ntmps50
  go_wp2_with fail
  go_loopw [4, 5] (fun ms i wx => ∃ k : Nat, ms = .int .i64 ((l.drop k).headD (-1)) ∧ i = .int .i64 ((k : Int) - 1) ∧ k ≤ l.length ∧ (l.drop k).Pairwise (· ≥ ·) ∧ wx = w) (fun _ i _ => (intOf i + 1).toNat)
  case atStart => exact ⟨l.length, by rw [List.drop_length]; rfl, by rw [e0], Nat.le_refl _, by rw [List.drop_length]; exact List.Pairwise.nil, rfl⟩
  case round =>
    obtain ⟨k, rfl, rfl, hk, hP, hwr⟩ := hrel
    obtain rfl := hwr.symm
    clear hwr e0
    rcases Nat.eq_zero_or_pos k with rfl | hk0
    · have KF := hide' (falls_all (l := l) (by simpa using hP))
      have hneg : ¬ (((0 : Nat) : Int) - 1 ≥ 0) := by omega
      generalize (l.drop 0).headD (-1) = M at *
      clear hP hk
      go_wp2
      go_ret2
      exact NxE.no KF.out
    · obtain ⟨p, rfl⟩ : ∃ p, k = p + 1 := ⟨k - 1, by omega⟩
      have hlt : p < l.length := by omega
      have hpe : ((p + 1 : Nat) : Int) - 1 = (p : Int) := by omega
      rw [hpe]
      have hp0 : (0 : Int) ≤ (p : Int) := by omega
      have hlt' : (p : Int) < (l.length : Int) := by omega
      obtain ⟨b, off, ha, hb, hc⟩ := icells (HI.out _ (Below.refl _ _)) hlt
      have ic := hc p hlt
      have hg := getD_get hlt
      obtain ⟨x, hx⟩ : ∃ v, l.getD p 0 = v := ⟨_, rfl⟩
      rw [hx] at ic hg
      have hxr := HL.out.2.1 x (List.mem_of_getElem? hg)
      have e1 : wrap64 ((p : Int) - 1) = (p : Int) - 1 := wrap_in (by omega) (by have := HL.out.1; omega)
      have Hms : Hid ((intOf (.int .i64 ((p : Int) - 1)) + 1).toNat < (intOf (.int .i64 (p : Int)) + 1).toNat) := hide' (by show ((p : Int) - 1 + 1).toNat < ((p : Int) + 1).toNat; omega)
      obtain ⟨M, hM⟩ : ∃ M, M = (l.drop (p + 1)).headD (-1) := ⟨_, rfl⟩
      rw [← hM]
      have hdp := drop_pred hg
      by_cases h1 : M < x
      · have K2 : Hid (x = (l.drop p).headD (-1) ∧ (l.drop p).Pairwise (· ≥ ·) ∧ p ≤ l.length) := hide' (by rw [hdp]; exact ⟨rfl, fall_on hP (by rw [← hM]; omega), by omega⟩)
        have h2 : ¬ (x > x) := by omega
        obtain rfl := ha
        clear hc hb hx hg hxr hM hdp hP hk hk0 hlt hpe
        go_wp2
        exact ⟨⟨p, by rw [← K2.out.1], by first | rfl | (rw [e1]), K2.out.2.2, K2.out.2.1, trivial⟩, by first | exact Hms.out | (rw [e1]; exact Hms.out)⟩
      · by_cases h2 : x < M
        · have hMin : M ∈ l.drop (p + 1) := by
            rw [hM]
            cases hD : l.drop (p + 1) with
            | nil => rw [hD] at hM; simp at hM; omega
            | cons d D => simp
          have e2 : wrap64 ((p : Int) + 1) = ((p + 1 : Nat) : Int) := wsucN p (by have := HL.out.1; omega)
          have CR := hide' (rest_any a c l (p + 1) x w (HI.out _ (Below.refl _ _)) HL.out.1 hxr.1 (by omega))
          have HP := hide' (And.intro hg (And.intro hP (And.intro hMin (And.intro h2 hlt))))
          have HCell : Hid (∀ w', Below w.heap.size w w' → ∀ j, j < l.length → w'.cell? ⟨b, off + j, none⟩ = some (.int .i64 (l.getD j 0))) := hide' (fun w' bb j hj => (bb.cell (p := ⟨b, off + j, none⟩) hb).trans (hc j hj))
          obtain rfl := ha
          clear hc hb hx hg hxr hM hdp hP hk hk0 hlt hpe hMin e1 Hms
          have e3 : ((p + 1 : Nat) : Int) = (p : Int) + 1 := rfl
          rw [e3] at CR e2
          go_wp2_with fail
          refine CR.out.mono ?_
          rintro e w1 ⟨m, rfl, HRs, hw1⟩
          obtain rfl := hw1.symm
          clear hw1 CR
          have HM : Hid (m ∈ l.drop (p + 1) ∧ x < m ∧ ∀ v ∈ l.drop (p + 1), x < v → m ≤ v) := hide' (by
            rcases HRs.out with ⟨_, q⟩ | q
            · exact absurd HP.out.2.2.2.1 (q M HP.out.2.2.1)
            · exact q)
          clear HRs ic h1 h2 e2
          go_wp2_with fail
          go_loopw [7, 8, 9] (fun v ot i wx => ∃ (k : Nat) (ro : Option Addr) (rc : Nat), v = .slice ro (((l.take k).drop p).erase m).length rc ∧ ot = .bool (decide (m ∈ (l.take k).drop p)) ∧ i = .int .i64 (k : Int) ∧ p ≤ k ∧ k ≤ l.length ∧ Lf w ((l.take k).drop p) m ro rc wx) (fun _ _ i _ => l.length - (intOf i).toNat)
          case atStart =>
            have hnil : (l.take p).drop p = [] := List.drop_eq_nil_of_le (by rw [List.length_take]; omega)
            exact ⟨p, none, 0, by rw [hnil]; rfl, by rw [hnil]; rfl, rfl, Nat.le_refl _, Nat.le_of_lt HP.out.2.2.2.2, by rw [hnil]; exact ⟨Gr.nil _ _, Below.refl _ _⟩⟩
          case round =>
            obtain ⟨k, ro, rc, rfl, rfl, rfl, hpk, hk, hF⟩ := hrel
            by_cases hlt : k < l.length
            · have hltk : (k : Int) < (l.length : Int) := by omega
              have e1 := hide' (wsucN k (by have := HL.out.1; omega))
              have Hend := hide' (msr' hlt _ rfl)
              have Hk := hide' (And.intro hlt hpk)
              have ic := HCell.out _ hF.b k hlt
              have hseg := seg_one hpk (getD_get hlt)
              obtain ⟨v, hv⟩ : ∃ v, l.getD k 0 = v := ⟨_, rfl⟩
              rw [hv] at ic hseg
              obtain ⟨T, hT⟩ : ∃ T, T = (l.take k).drop p := ⟨_, rfl⟩
              rw [← hT] at hseg hF ⊢
              have HTl : Hid (T.length ≤ 1048576) := hide' (by rw [hT, List.length_drop, List.length_take]; have := HL.out.1; omega)
              have HF := hide' hF
              have HS := hide' hseg
              clear hv hseg hT hF hk hpk hlt
              by_cases hmT : m ∈ T
              · have hlen : Hid ((T.erase m).length < 17592186044000) := hide' (by have := List.length_erase_le (a := m) (l := T); have := HTl.out; omega)
                have hdm : decide (m ∈ T) = true := by simp [hmT]
                have HE : Hid ((l.take (k + 1)).drop p = T ++ [v] ∧ (T ++ [v]).erase m = T.erase m ++ [v] ∧ decide (m ∈ T ++ [v]) = true) := hide' ⟨HS.out, er_in hmT, by simp [hmT]⟩
                obtain ⟨E, hE⟩ : ∃ E, E = T.erase m := ⟨_, rfl⟩
                rw [hdm]
                rw [← hE] at HE hlen ⊢
                have HG : Hid (Gr w.heap.size E ro rc wr ∧ Below w.heap.size w wr) := hide' (by rw [hE]; exact ⟨HF.out.g, HF.out.b⟩)
                clear hmT hdm HS HF hE
                cases hbe : (v == m)
                · go_wp2_with (at_builtin; go_loud (refine wpList_num wr rfl _ _ rfl (ro := ro) (rc := rc) (zs := E) HG.out.1.row hlen HG.out.2.size v _ rfl rfl ?_); intro gg cc w3 r3 t3 p3; have O3 := hide' (And.intro r3 t3); clear r3 t3 p3)
                  have K3 : Hid (Gr w.heap.size (E ++ [v]) (some ⟨gg, 0, none⟩) cc w3 ∧ Below w.heap.size w w3) := hide' ⟨⟨O3.out.1⟩, HG.out.2.trans (HG.out.1.bel O3.out.2 HG.out.2.size)⟩
                  clear O3 HG
                  exact ⟨⟨k + 1, _, _, by rw [HE.out.1, HE.out.2.1, List.length_append]; rfl, by rw [HE.out.1, HE.out.2.2], by first | rfl | (rw [e1.out]), Nat.le_succ_of_le Hk.out.2, Hk.out.1, by rw [HE.out.1]; exact ⟨by rw [HE.out.2.1]; exact K3.out.1, K3.out.2⟩⟩, by first | exact Hend.out | (rw [e1.out]; exact Hend.out)⟩
                · go_wp2_with (at_builtin; go_loud (refine wpList_num wr rfl _ _ rfl (ro := ro) (rc := rc) (zs := E) HG.out.1.row hlen HG.out.2.size v _ rfl rfl ?_); intro gg cc w3 r3 t3 p3; have O3 := hide' (And.intro r3 t3); clear r3 t3 p3)
                  have K3 : Hid (Gr w.heap.size (E ++ [v]) (some ⟨gg, 0, none⟩) cc w3 ∧ Below w.heap.size w w3) := hide' ⟨⟨O3.out.1⟩, HG.out.2.trans (HG.out.1.bel O3.out.2 HG.out.2.size)⟩
                  clear O3 HG
                  exact ⟨⟨k + 1, _, _, by rw [HE.out.1, HE.out.2.1, List.length_append]; rfl, by rw [HE.out.1, HE.out.2.2], by first | rfl | (rw [e1.out]), Nat.le_succ_of_le Hk.out.2, Hk.out.1, by rw [HE.out.1]; exact ⟨by rw [HE.out.2.1]; exact K3.out.1, K3.out.2⟩⟩, by first | exact Hend.out | (rw [e1.out]; exact Hend.out)⟩
              · have hdm : decide (m ∈ T) = false := by simp [hmT]
                rw [hdm]
                by_cases hvm : v = m
                · subst hvm
                  obtain ⟨en1, en2⟩ := er_new (T := T) hmT
                  have HE : Hid ((l.take (k + 1)).drop p = T ++ [v] ∧ (T ++ [v]).erase v = T ∧ T.erase v = T ∧ decide (v ∈ T ++ [v]) = true) := hide' ⟨HS.out, en1, en2, by simp⟩
                  obtain ⟨n, hn⟩ : ∃ n, n = (T.erase v).length := ⟨_, rfl⟩
                  rw [← hn]
                  have Hn := hide' hn
                  clear hmT hdm HS hn en1 en2
                  go_wp2
                  exact ⟨⟨k + 1, ro, rc, by rw [HE.out.1, HE.out.2.1, Hn.out, HE.out.2.2.1], by rw [HE.out.1, HE.out.2.2.2], by first | rfl | (rw [e1.out]), Nat.le_succ_of_le Hk.out.2, Hk.out.1, by rw [HE.out.1]; exact ⟨by rw [HE.out.2.1]; have := HF.out.g; rw [HE.out.2.2.1] at this; exact this, HF.out.b⟩⟩, by first | exact Hend.out | (rw [e1.out]; exact Hend.out)⟩
                · have hbe : (v == m) = false := by simpa using hvm
                  have hlen : Hid (T.length < 17592186044000) := hide' (by have := HTl.out; omega)
                  have hTe := List.erase_of_not_mem hmT
                  have HE : Hid ((l.take (k + 1)).drop p = T ++ [v] ∧ (T ++ [v]).erase m = T ++ [v] ∧ decide (m ∈ T ++ [v]) = false) := hide' ⟨HS.out, er_out hmT hvm, by simp [hmT]; exact fun e => hvm e.symm⟩
                  rw [hTe]
                  obtain ⟨E, hE⟩ : ∃ E, E = T := ⟨_, rfl⟩
                  rw [← hE] at HE hlen ⊢
                  have HG : Hid (Gr w.heap.size E ro rc wr ∧ Below w.heap.size w wr) := hide' (by rw [hE]; have := HF.out.g; rw [hTe] at this; exact ⟨this, HF.out.b⟩)
                  clear hmT hdm HS HF hE hTe hvm
                  go_wp2_with (at_builtin; go_loud (refine wpList_num wr rfl _ _ rfl (ro := ro) (rc := rc) (zs := E) HG.out.1.row hlen HG.out.2.size v _ rfl rfl ?_); intro gg cc w3 r3 t3 p3; have O3 := hide' (And.intro r3 t3); clear r3 t3 p3)
                  have K3 : Hid (Gr w.heap.size (E ++ [v]) (some ⟨gg, 0, none⟩) cc w3 ∧ Below w.heap.size w w3) := hide' ⟨⟨O3.out.1⟩, HG.out.2.trans (HG.out.1.bel O3.out.2 HG.out.2.size)⟩
                  clear O3 HG
                  exact ⟨⟨k + 1, _, _, by rw [HE.out.1, HE.out.2.1, List.length_append]; rfl, by rw [HE.out.1, HE.out.2.2], by first | rfl | (rw [e1.out]), Nat.le_succ_of_le Hk.out.2, Hk.out.1, by rw [HE.out.1]; exact ⟨by rw [HE.out.2.1]; exact K3.out.1, K3.out.2⟩⟩, by first | exact Hend.out | (rw [e1.out]; exact Hend.out)⟩
            · obtain rfl : k = l.length := by omega
              rw [List.take_length] at hF ⊢
              have hPl : (l.take p).length = p := by rw [List.length_take]; have := HP.out.2.2.2.2; omega
              have hdp := drop_pred HP.out.1
              have hmD : m ∈ l.drop p := by rw [hdp]; exact List.mem_cons_of_mem _ HM.out.1
              have hdm : decide (m ∈ l.drop p) = true := decide_eq_true hmD
              rw [hdm]
              obtain ⟨E, hE⟩ : ∃ E, E = (l.drop p).erase m := ⟨_, rfl⟩
              have HEv : Hid ((∀ v ∈ E, 0 ≤ v ∧ v < 64) ∧ E.length ≤ 1048576) := hide' (by
                rw [hE]
                refine ⟨fun v hv => HL.out.2.1 v (List.mem_of_mem_drop (List.mem_of_mem_erase hv)), ?_⟩
                have := List.length_erase_le (a := m) (l := l.drop p)
                rw [List.length_drop] at this
                have := HL.out.1
                omega)
              have HEE := hide' hE
              rw [← hE]
              have HG : Hid (Gr w.heap.size E ro rc wr ∧ Below w.heap.size w wr) := hide' (by rw [hE]; exact ⟨hF.g, hF.b⟩)
              obtain ⟨R, hR⟩ : ∃ R, R = fz (cts E) 64 := ⟨_, rfl⟩
              have hRs : R.Pairwise (· ≤ ·) := by rw [hR]; exact fz_up _ _
              have hRp : R.Perm ((l.drop p).erase m) := by rw [hR, ← hE]; exact rising_perm HEv.out.1
              have HR := hide' hR
              have HRl := hide' (show R.length ≤ 1048576 by rw [hRp.length_eq, ← hE]; exact HEv.out.2)
              have HN0 := nx_ref HP.out.1 HP.out.2.1 HM.out.1 HM.out.2.1 HM.out.2.2 hRs hRp
              have HN : Hid (Nx l ((l.take p ++ [m]) ++ R)) := hide' (by rw [List.append_assoc]; exact HN0)
              have CRi := hide' (fun (V : World) (hV : Ints V ro E) => rising_any ro rc E V hV HEv.out.2 HEv.out.1)
              rw [← hR] at CRi
              clear hR hRs hRp HN0
              obtain ⟨P0, hP0⟩ : ∃ P, P = l.take p := ⟨_, rfl⟩
              have HI0 : Hid (Ints wr (some ⟨b, off, none⟩) P0) := hide' (by rw [hP0]; exact ints_take (HI.out _ hF.b) p)
              rw [← hP0] at HN hPl
              have HPl := hide' hPl
              have HPlt := hide' (show P0.length ≤ 1048576 by have := HL.out.1; have := HP.out.2.2.2.2; omega)
              have hpc : (p : Int) ≤ (c : Int) := by have := HL.out.2.2.1; have := HP.out.2.2.2.2; omega
              clear hF hk hpk hlt hdp hmD hdm hE hP0 hPl HEE HM HP HCell
              go_wp2_with (first
                | (at_builtin; have G := p1'; go_loud (refine wpList_num w1 rfl _ _ rfl (ro := ro1) (rc := rc1) (zs := P0) O1.out.1 (hide' (by have := HPlt.out; omega)) O1.out.2.2.size m _ rfl rfl ?_); intro gg cc w2 r2 t2 p2; have O2 := hide' (And.intro r2 t2); clear r2 t2 p2)
                | (at_builtin; go_loud (refine wpList_ints wr rfl _ _ rfl (B := w.heap.size) (ro := none) (rc := 0) (zs := []) (World.ownsRow_nil wr w.heap.size 3 1) HG.out.2.size (some ⟨b, off, none⟩) c P0 (hide' (by have := HPlt.out; simp; omega)) HI0.out (fun q => by cases q) rfl (by rw [HPl.out]; rfl) ?_); intro ro1 rc1 w1 r1 t1 p1; rw [List.nil_append] at r1; have p1' : True := trivial; have O1 := hide' (And.intro r1 (And.intro p1 (HG.out.2.trans (t1.below (fun j hj => by obtain ⟨_, q, _⟩ := hj; cases q) HG.out.2.size)))); have T1 := hide' t1; clear r1 t1 p1))
              have HBr : Hid (Below wr.heap.size wr w2) := hide' (by
                have b1 : Below wr.heap.size wr w1 := T1.out.below (fun j hj => by obtain ⟨_, q, _⟩ := hj; cases q) (Nat.le_refl _)
                exact b1.trans (O2.out.2.below (fun j hj => by
                  rcases O1.out.2.1 j hj with q | q
                  · obtain ⟨_, q, _⟩ := q; cases q
                  · omega) b1.size))
              have C2 := hide' (CRi.out w2 ((Ints.of_row HG.out.1.row).below HBr.out))
              have H2 : Hid (Gr w.heap.size (P0 ++ [m]) (some ⟨gg, 0, none⟩) cc w2 ∧ Below w.heap.size w w2) := hide' ⟨⟨O2.out.1⟩, HG.out.2.trans (HBr.out.mono HG.out.2.size)⟩
              clear O1 O2 T1 HBr CRi HG p1'
              refine C2.out.mono ?_
              rintro e w3 ⟨ro3, rc3, rfl, r3, b3⟩
              have hn3 : ro3 = none → rc3 = 0 := fun q => by
                rcases r3.2 with ⟨hv, _⟩ | ⟨g, cap, cur, hv, _⟩
                · simp only [Value.slice.injEq] at hv; exact hv.2.2
                · rw [q] at hv; simp only [Value.slice.injEq] at hv; cases hv.1
              have H3 : Hid (w3.ownsRow w.heap.size 3 1 (.slice (some ⟨gg, 0, none⟩) (P0 ++ [m]).length cc) (P0 ++ [m]).length (ivs (P0 ++ [m])) ∧ Below w.heap.size w w3 ∧ Ints w3 ro3 R ∧ (ro3 = none → rc3 = 0) ∧ w.heap.size ≤ gg) := hide' ⟨(turn_below (S := fun _ => False) b3).row H2.out.1.row (fun _ _ q => q), H2.out.2.trans (b3.mono H2.out.2.size), Ints.of_row r3, hn3, (H2.out.1.at (j := gg) ⟨_, rfl, rfl⟩).1⟩
              have hl1 : (P0 ++ [m]).length = P0.length + 1 := by rw [List.length_append]; rfl
              have Hl1 := hide' hl1
              clear r3 b3 hn3 C2 H2 hl1
              go_wp2_with (at_builtin; go_loud (refine wpList_ints w3 rfl _ _ rfl (B := w.heap.size) (ro := some ⟨gg, 0, none⟩) (rc := cc) (zs := P0 ++ [m]) H3.out.1 H3.out.2.1.size ro3 rc3 R (hide' (by have := HPlt.out; have := HRl.out; rw [Hl1.out]; omega)) H3.out.2.2.1 H3.out.2.2.2.1 (by rw [Hl1.out]; rfl) rfl ?_); intro ro4 rc4 w4 r4 t4 p4; have O4 := hide' (And.intro r4 t4); clear r4 t4 p4)
              have K4 : Hid (Gr w.heap.size ((P0 ++ [m]) ++ R) ro4 rc4 w4 ∧ Below w.heap.size w w4) := hide' ⟨⟨O4.out.1⟩, H3.out.2.1.trans (O4.out.2.below (fun j hj => by obtain ⟨_, q, rfl⟩ := hj; cases q; exact H3.out.2.2.2.2) H3.out.2.1.size)⟩
              clear O4 H3
              try go_wp2
              go_ret2
              exact NxE.yes (by rw [List.length_append, Hl1.out]) HN.out K4.out.1 K4.out.2
        · have hMx : M = x := by omega
          have K2 : Hid (x = (l.drop p).headD (-1) ∧ (l.drop p).Pairwise (· ≥ ·) ∧ p ≤ l.length) := hide' (by rw [hdp]; exact ⟨rfl, fall_on hP (by rw [← hM]; omega), by omega⟩)
          subst hMx
          obtain rfl := ha
          clear hc hb hx hg hxr hM hdp hP hk hk0 hlt hpe
          go_wp2
          exact ⟨⟨p, by rw [← K2.out.1], by first | rfl | (rw [e1]), K2.out.2.2, K2.out.2.1, trivial⟩, by first | exact Hms.out | (rw [e1]; exact Hms.out)⟩
end X
end Go.Proofs.Ytbgjggblaeadlaa
