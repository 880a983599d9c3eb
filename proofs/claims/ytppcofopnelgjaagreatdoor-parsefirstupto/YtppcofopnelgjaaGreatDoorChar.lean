import Derived.Test.YtppcofopnelgjaaGreatDoorHex
import Derived.Test.YtppcofopnelgjaaGreatDoorGrSa
import Derived.Laws.Cover4
set_option linter.unusedVariables false
set_option linter.unusedSimpArgs false
namespace Go.Proofs.YtppcofopnelgjaaGreatDoor
open Go.RowKit
namespace L
/-- the value of digits to the base 16 -/
def hexV (ns : List Int) : Nat := hexN 0 (ns.map fun n => UInt8.ofNat n.toNat)
theorem enc_ascii (n : Int) (h0 : 0 ≤ n) (h1 : n < 128) : Utf8.encode n = ⟨#[UInt8.ofNat n.toNat]⟩ := by
  have hv : Utf8.valid n = true := by simp [Utf8.valid]; omega
  unfold Utf8.encode
  simp only [hv, if_true]
  rw [if_pos (by omega)]
theorem runesBytes_ascii (ns : List Int) (h : ∀ n ∈ ns, 0 ≤ n ∧ n < 128) : (runesBytes ns).data.toList = ns.map fun n => UInt8.ofNat n.toNat := by
  have : ∀ (ns : List Int) (s : ByteArray), (∀ n ∈ ns, 0 ≤ n ∧ n < 128) → (ns.foldl (fun r n => r ++ Utf8.encode n) s).data.toList = s.data.toList ++ ns.map fun n => UInt8.ofNat n.toNat := by
    intro ns
    induction ns with
    | nil => intro s _; simp
    | cons n ns ih =>
      intro s hs
      rw [List.foldl_cons, ih _ (fun x hx => hs x (List.mem_cons_of_mem _ hx))]
      have hn := hs n (List.mem_cons_self ..)
      rw [enc_ascii n hn.1 hn.2]
      simp [ByteArray.data_append]
  have := this ns ByteArray.empty h
  simpa [runesBytes] using this
theorem hex_ascii (n : Int) (h : isHex n = true) : (0 ≤ n ∧ n < 128) ∧ hexB (UInt8.ofNat n.toNat).toNat := by
  simp only [isHex, isDigit, Bool.or_eq_true, Bool.and_eq_true, decide_eq_true_eq] at h
  have h2 : (UInt8.ofNat n.toNat).toNat = n.toNat := by
    rw [UInt8.toNat_ofNat']; omega
  rw [h2]
  unfold hexB
  omega
end L
theorem convRunes (w : World) (rb o n cap : Nat) (ns : List Int) (hl : ns.length = n) (hc : ∀ j, j < n → w.cell? ⟨rb, o + j, none⟩ = some (.int .i32 (ns.getD j 0))) :
    (convert 129 9 (.slice (some ⟨rb, o, none⟩) n cap)).run Tryz.prog w = .ok (.string (runesBytes ns)) w := by
  rw [run_convert_runes_string w 129 9 21 _ _ _ Tryz.underlying129 Tryz.underlying21 Tryz.underlying9]
  apply run_runesToString
  have h : (loadCells ⟨rb, o, none⟩ (ns.map (Value.int .i32)).length).run Tryz.prog w = .ok (ns.map (Value.int .i32)).toArray w :=
    run_loadCells_list (P := Tryz.prog) w ⟨rb, o, none⟩ (ns.map (Value.int .i32)) (fun j v hv => by
      have hadd : (⟨rb, o, none⟩ : Addr).add j = ⟨rb, o + j, none⟩ := by unfold Addr.add; split <;> simp_all
      rw [hadd]
      have hj : j < n := by
        rcases Nat.lt_or_ge j n with q | q
        · exact q
        · rw [List.getElem?_eq_none (by simp; omega)] at hv; cases hv
      rw [hc j hj]
      rw [List.getElem?_map] at hv
      rw [List.getD_eq_getElem?_getD]
      cases hq : ns[j]? with
      | none => rw [hq] at hv; cases hv
      | some x => rw [hq] at hv; simpa using hv)
  rwa [List.length_map, hl] at h

/-- what an escape's digits stand for -/
def charOf (ns : List Int) : Value := if Lib.validRune (L.hexV ns) then .tuple #[.string (Utf8.encode (L.hexV ns)), .bool true] else .tuple #[.string ByteArray.empty, .bool false]

set_option maxHeartbeats 1000000 in
set_option maxRecDepth 100000 in
theorem characterOf_any (ns : List Int) (w : World) (rb o n cap : Nat) (hl : ns.length = n) (hn1 : 1 ≤ n) (hn6 : n ≤ 6) (hh : ∀ x ∈ ns, L.isHex x = true) (hc : ∀ j, j < n → w.cell? ⟨rb, o + j, none⟩ = some (.int .i32 (ns.getD j 0))) :
    Calls Tryz.prog 149 #[.slice (some ⟨rb, o, none⟩) n cap] w fun e w' => e = .returned (charOf ns) ∧ Below w.heap.size w w' := by
  have hcv := convRunes w rb o n cap ns hl hc
  have hda := L.runesBytes_ascii ns (fun x hx => (L.hex_ascii x (hh x hx)).1)
  have hsz : (runesBytes ns).size = n := by
    have : (runesBytes ns).data.toList.length = n := by rw [hda]; simpa using hl
    rw [Array.length_toList] at this; exact this
  have HP := hide' fun w => parseInt_hex (runesBytes ns) (by omega) (by omega) (by
    rw [hda]
    intro c hc
    obtain ⟨x, hx, rfl⟩ := List.mem_map.1 hc
    exact (L.hex_ascii x (hh x hx)).2) w
  have hlt : L.hexV ns < 16777216 := by
    have h1 := L.hexN_lt (ns.map fun n => UInt8.ofNat n.toNat) 0 0 (by simp) (by
      intro c hc
      obtain ⟨x, hx, rfl⟩ := List.mem_map.1 hc
      exact (L.hex_ascii x (hh x hx)).2)
    have h3 : 16 ^ (0 + (ns.map fun n => UInt8.ofNat n.toNat).length) ≤ 16 ^ 6 := Nat.pow_le_pow_right (by omega) (by simp; omega)
    have h4 : 16 ^ 6 = 16777216 := by decide
    show L.hexN 0 _ < _
    omega
  have hV : ((L.hexN 0 (runesBytes ns).data.toList : Nat) : Int) = (L.hexV ns : Int) := by rw [hda]; rfl
  unfold charOf
  rw [hV] at HP
  obtain ⟨V, hV2⟩ : ∃ V : Int, (L.hexV ns : Int) = V := ⟨_, rfl⟩
  have h0 : 0 ≤ V := by omega
  have h1 : V < 16777216 := by omega
  rw [hV2] at HP ⊢
  obtain ⟨tx, htx⟩ : ∃ tx, runesBytes ns = tx := ⟨_, rfl⟩
  rw [htx] at HP hcv
  have hcv2 : ∀ W : World, (convert 129 9 (.slice (some ⟨W.heap.size, 0, none⟩) 1 1)).run Tryz.prog (W.alloc (.cells #[.int .i32 V] 21)) = .ok (.string (Utf8.encode V)) (W.alloc (.cells #[.int .i32 V] 21)) := fun W => by
    have := convRunes (W.alloc (.cells #[.int .i32 V] 21)) W.heap.size 0 1 1 [V] rfl (fun j hj => by
      obtain rfl : j = 0 := by omega
      unfold World.cell?
      simp only [Nat.add_zero]
      rw [heap_alloc_new]; rfl)
    rw [this]; simp [runesBytes]
  clear hV hV2 hlt hda hsz hc hh htx
  cases hv : Lib.validRune V
  · go_enter Tryz.func149, Tryz.ntmps149
    go_wp2_with (first | (go_at_call 155; refine (HP.out _).mono ?_; rintro e w1 ⟨rfl, b1⟩) | (go_at_call 156; refine (sh.utf8_ValidRune _ _).mono ?_; rintro e w2 ⟨rfl, hw2⟩; replace hw2 := hw2.symm; subst hw2))
    go_ret2
    exact ⟨rfl, b1⟩
  · go_enter Tryz.func149, Tryz.ntmps149
    go_wp2_with (first | (go_at_call 155; refine (HP.out _).mono ?_; rintro e w1 ⟨rfl, b1⟩) | (go_at_call 156; refine (sh.utf8_ValidRune _ _).mono ?_; rintro e w2 ⟨rfl, hw2⟩; replace hw2 := hw2.symm; subst hw2))
    go_ret2
    exact ⟨rfl, b1.alloc (by have := b1.size; omega) _⟩
end Go.Proofs.YtppcofopnelgjaaGreatDoor
