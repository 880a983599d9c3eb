import Derived.Test.YtollaamlnddhcaaSCls
set_option linter.unusedVariables false
set_option linter.unusedSimpArgs false
namespace Go.Proofs.Ytollaamlnddhcaa
open Go.RowKit Go.Maps
namespace S
/-- a thing's turn: the call's end, then the put's end -/
theorem Mid.step {nf : Nat} {caps : Array Value} {F : ByteArray → List ByteArray} {fr u : List ByteArray} {B x bm : Nat} {A : Nat → Prop} {O : List ByteArray → Option Nat → World → Prop} (N : Nxt nf caps F u B A O) {ag ag' ag2 : Option Nat} {w wx w1 w2 : World} {n : Nat} {ao : Option Addr} {cap : Nat} {k : ByteArray}
    (h : Mid F fr B x bm A O ag w n wx ao cap ag') (hk : (Bf.st F fr n)[n]? = some k) (o1 : O ((Bf.st F fr n).take n ++ [k]) ag2 w1) (t1 : Turn (fun j => A j ∨ some j = ag') wx w1) (hag : ag2 = ag' ∨ ∃ g, ag2 = some g ∧ wx.heap.size ≤ g)
    (hg : Grew B x bm ao (Bf.add (Bf.st F fr n) (F k)) w1 w2) (hB : B = w.heap.size) : ∃ ao2 cap2, Mid F fr B x bm A O ag w (n + 1) w2 ao2 cap2 ag2 := by
  obtain ⟨hL, ho, ht, ha, hn, hl⟩ := h
  obtain ⟨ao2, cap2, hL2, t2, hgo⟩ := hg
  have hap := hL.apart (by decide)
  have s1 := t1.size
  have sx := ht.size
  have hx := hL.lt
  have hm := hL.ltm
  have hBx' := hL.hx
  have hBm := hL.hm
  have own_lt : ∀ j, Own x bm ao j → B ≤ j ∧ j < wx.heap.size := fun j q => by
    rcases q with q | q | ⟨a, e, q⟩
    · exact ⟨by omega, by omega⟩
    · exact ⟨by omega, by omega⟩
    · have := hap a e; exact ⟨by omega, by omega⟩
  have own2 : ∀ j, ag2 = some j → ¬ Own x bm ao j := fun j e q => by
    rcases hag with r | ⟨g, r, hg⟩
    · exact hn j (by rw [← r]; exact e) q
    · rw [r] at e; cases e; have := (own_lt _ q).2; omega
  have lt2 : ∀ j, ag2 = some j → j < w1.heap.size := N.lt _ _ _ o1
  have lx : (Bf.st F fr n).length > n := (List.getElem?_eq_some_iff.1 hk).1
  have hst := Bf.st_some (F := F) (fr := fr) hk
  have hpre := Bf.add_prefix (Bf.st F fr n) (F k)
  refine ⟨ao2, cap2, by rw [hst]; exact hL2, ?_, ?_, ?_, ?_, ?_⟩
  · have e1 : (Bf.st F fr (n + 1)).take (n + 1) = (Bf.st F fr n).take n ++ [k] := by
      rw [hst, List.take_add_one, Bf.getElem?_prefix hpre hk]
      obtain ⟨r, hr⟩ := hpre
      rw [← hr, List.take_append_of_le_length (by omega)]
      rfl
    rw [e1]
    exact N.keep _ _ _ _ _ o1 t2 (fun j hj q => ⟨(own_lt j q).1, fun e => own2 j e.symm q⟩)
  · refine (ht.then t1 (fun j hj q => ?_)).then t2 (fun j hj q => ?_)
    · rcases q with q | q
      · exact .inl q
      · rcases ha with r | ⟨g, r, hg⟩
        · exact .inr (by rw [← r]; exact q)
        · rw [r] at q; cases q; exfalso; omega
    · exfalso; have := (own_lt j q).1; omega
  · rcases hag with r | ⟨g, r, hg⟩
    · rw [r]; exact ha
    · exact .inr ⟨g, r, by omega⟩
  · intro j e q
    rcases hgo with r | ⟨g, r, hg⟩
    · rw [r] at q; exact own2 j e q
    · rcases q with q | q | ⟨a, e2, q⟩
      · exact own2 j e (.inl q)
      · exact own2 j e (.inr (.inl q))
      · rw [r] at e2; cases e2; have := lt2 j e; simp at q; omega
  · rw [hst]; have := Bf.add_len (Bf.st F fr n) (F k); omega
set_option maxRecDepth 100000 in
set_option maxHeartbeats 8000000 in
theorem close_any (nf : Nat) (caps : Array Value) (F : ByteArray → List ByteArray) (fr u : List ByteArray) (A : Nat → Prop) (O : List ByteArray → Option Nat → World → Prop) (ag : Option Nat) (fo : Option Addr) (fcap : Nat) (w : World)
    (N : Nxt nf caps F u w.heap.size A O) (ho : O [] ag w) (hx : Ints fo fr w) (hc : fr.length ≤ fcap) (h1 : ∀ k ∈ fr, k ∈ u) (h2 : ∀ k ∈ u, ∀ j ∈ F k, j ∈ u) (hok : ∀ k ∈ u, okk k) (hlen : Hid (fr.length ≤ 1099511627776 ∧ ∀ k ∈ u, u.length + (F k).length ≤ 1099511627776)) :
    Calls Try.prog 66 #[.slice fo fr.length fcap, .func (.func nf) #[] caps] w fun e w' => CloseIs F fr w.heap.size A O ag w e w' := by
  have hmm := @run_makeMap Try.prog
  have heq := eq_func
  have HP := hide' (put_any w.heap.size (w.heap.size + 1) w.heap.size none 0 [] fr fo fcap _ (made w) (hx.turn (made_turn w (fun _ => False)) (fun _ _ _ _ q => q)) (made_not hx) (fun k hk => hok k (h1 k hk)) hc (by show [].length + _ ≤ _; simpa using hlen.out.1))
  have Ht := hide' (made_turn w (fun j => A j ∨ some j = ag))
  have HO := hide' (N.keep _ _ _ _ _ ho (made_turn w (fun _ => False)) (fun j _ q => q.elim))
  have Hlt := hide' (N.lt _ _ _ ho)
  have HN := hide' N
  have hent := N.enters
  have Hsub := hide' (fun n => Bf.st_sub (F := F) (fr := fr) h1 h2 n)
  have Hle := hide' (fun n => Bf.st_le (F := F) (fr := fr) h1 h2 n)
  have H2 := hide' h2
  have Hok := hide' hok
  obtain ⟨B, hB⟩ : ∃ B, B = w.heap.size := ⟨_, rfl⟩
  clear hx hok hc ho h1 h2 N
  go_enter Try.func66, Try.ntmps66
  go_wp2_with fail
  refine HP.out.mono ?_
  rintro e w1 ⟨rfl, hG⟩
  have hM : Hid (∃ ao cap, Mid F fr w.heap.size (w.heap.size + 1) w.heap.size A O ag w 0 w1 ao cap ag) := by
    obtain ⟨ao, cap, hL, t1, hgo⟩ := hG
    refine ⟨ao, cap, hL, ?_, ?_, .inl rfl, ?_, by omega⟩
    · refine HN.out.keep _ _ _ _ _ HO.out t1 (fun j hj q => ?_)
      rcases q with q | q | ⟨a, e, _⟩
      · exact ⟨by omega, fun e => by have := Hlt.out j e.symm; omega⟩
      · exact ⟨by omega, fun e => by have := Hlt.out j e.symm; omega⟩
      · cases e
    · refine Ht.out.then t1 (fun j hj q => ?_)
      rcases q with q | q | ⟨a, e, _⟩
      · exfalso; omega
      · exfalso; omega
      · cases e
    · intro j e q
      have hj := Hlt.out j e
      rcases q with q | q | ⟨a, e2, q⟩
      · omega
      · omega
      · have := (hL.apart (by decide) a e2).2.2.1; omega
  clear hG HP HO Ht
  go_wp2_with fail
  go_loopw [6] (fun i wx => ∃ n : Nat, i = .int .i64 (n : Int) ∧ ∃ ao cap ag', Mid F fr w.heap.size (w.heap.size + 1) w.heap.size A O ag w n wx ao cap ag') (fun i _ => u.length - (intOf i).toNat)
  case atStart =>
    obtain ⟨ao, cap, h⟩ := hM.out
    exact ⟨0, rfl, ao, cap, ag, h⟩
  case round =>
    obtain ⟨n, rfl, ao, cap, ag', h⟩ := hrel
    have hle := Hle.out n
    by_cases hlt : n < (Bf.st F fr n).length
    · obtain ⟨k, hk⟩ : ∃ k, (Bf.st F fr n)[n]? = some k := ⟨_, List.getElem?_eq_getElem hlt⟩
      have hku : k ∈ u := Hsub.out n k (List.mem_of_getElem? hk)
      obtain ⟨g, rfl, hcell, hcap, hg1, hg2⟩ := row_at h.1.row hk
      have c0 := h.1.c0
      have Hk := hide' hk
      have hl64 : ((Bf.st F fr n).length : Int) < 1099511627777 := by have := hlen.out.2 k hku; omega
      have hlt' : (n : Int) < ((Bf.st F fr n).length : Int) := by omega
      have Hst := hide' (fun ag2 w1 w2 o1 t1 hag hg => Mid.step HN.out (ag2 := ag2) (w1 := w1) (w2 := w2) h hk o1 t1 hag hg rfl)
      have hq := hide' h.2.2.2.2.1
      have HC := hide' (HN.out.call _ _ k _ hku h.2.1 (by have := h.2.2.1.size; omega) (by simp; omega))
      have HM := hide' h
      clear h
      go_wp2_with fail
      refine HC.out.mono ?_
      rintro e w2 ⟨to, tcap, ag2, rfl, htc, hI, ho2, t2, hag2, hto⟩
      have hL2 : LnI w.heap.size (w.heap.size + 1) w.heap.size (some ⟨g, 0, none⟩) cap (Bf.st F fr n) (Bf.st F fr n) w2 := by
        have hL := HM.out.1
        have nA : ∀ j, w.heap.size ≤ j → Own (w.heap.size + 1) w.heap.size (some ⟨g, 0, none⟩) j → ¬ (A j ∨ some j = ag') := fun j hj q r => by
          rcases r with r | r
          · have := HN.out.low j r; omega
          · exact hq.out j r.symm q
        exact hL.kept t2 (nA _ (by omega) (.inl rfl)) (nA _ (by omega) (.inr (.inl rfl))) (fun a e => by cases e; exact nA _ hg1 (.inr (.inr ⟨_, rfl, rfl⟩)))
      have hnot : F k ≠ [] → ∀ b off, to = some ⟨b, off, none⟩ → ¬ Own (w.heap.size + 1) w.heap.size (some ⟨g, 0, none⟩) b := fun hn b off e q => by
        have hr := hto hn b off e
        have hx := HM.out.1.lt
        have hm := HM.out.1.ltm
        rcases q with q | q | ⟨a, e2, q⟩
        · omega
        · omega
        · cases e2; simp at q; omega
      have HP2 := hide' (put_any w.heap.size (w.heap.size + 1) w.heap.size (some ⟨g, 0, none⟩) cap _ (F k) to tcap w2 hL2 hI hnot (fun j hj => Hok.out j (H2.out k hku j hj)) htc (by have := hlen.out.2 k hku; show _ ≤ _; omega))
      have HS := hide' (fun w3 hg => Hst.out ag2 w2 w3 ho2 t2 hag2 hg)
      clear hL2 hnot hI ho2 t2 hag2 hto htc
      go_wp2_with fail
      refine HP2.out.mono ?_
      rintro e w3 ⟨rfl, hG⟩
      obtain ⟨ao3, cap3, h3⟩ := HS.out w3 hG
      have H3 := hide' h3
      clear h3 hG
      go_wp2_with fail
      exact ⟨⟨n + 1, by go_num, ao3, cap3, ag2, H3.out⟩, by simp [intOf]; omega⟩
    · have hn : (Bf.st F fr n).length = n := by have := h.2.2.2.2.2; omega
      have c0 := h.1.c0
      have hlt' : ¬ (n : Int) < ((Bf.st F fr n).length : Int) := by omega
      have K : Hid (CloseIs F fr w.heap.size A O ag w (.returned (.slice ao (Bf.st F fr n).length cap)) wr) := by
        obtain ⟨hL, ho, ht, ha, hq, _⟩ := h
        refine ⟨n, ao, cap, ag', hn, by rw [hn], by have := hL.row; rw [hn] at this; exact this, ?_, ht, ha, fun a e q => ?_⟩
        · rw [List.take_of_length_le (by omega)] at ho; exact ho
        · exact hq _ q.symm (.inr (.inr ⟨a, e, rfl⟩))
      clear h hn
      go_wp2
      go_ret
      exact K.out
end S
end Go.Proofs.Ytollaamlnddhcaa
