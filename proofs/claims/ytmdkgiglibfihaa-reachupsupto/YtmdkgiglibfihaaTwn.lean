import Derived.Test.YtmdkgiglibfihaaUpG
import Derived.Test.YtmdkgiglibfihaaQRw
import Derived.Test.YtmdkgiglibfihaaKAll
set_option linter.unusedVariables false
set_option linter.unusedSimpArgs false
namespace Go.Proofs.Ytmdkgiglibfihaa
open Go.RowKit Go.Maps
namespace L
abbrev K2 := ByteArray × ByteArray
def sp : K2 := (⟨#[115, 112, 97, 114, 101]⟩, ⟨#[114, 111, 111, 109]⟩)
def sw (p : K2) : K2 := (p.2, p.1)
/-- a row of pairs and its marked room -/
def TwinIs (ps : List K2) (w : World) (e : Ending) (w' : World) : Prop := ∃ g cap, e = .returned (.slice (some ⟨g, 0, none⟩) ps.length cap) ∧ Q.RowI w.heap.size (some ⟨g, 0, none⟩) cap (ps ++ List.replicate 24 sp) w' ∧ Below w.heap.size w w'
set_option maxRecDepth 100000 in
set_option maxHeartbeats 4000000 in
theorem twin_any (po : Option Addr) (pcap : Nat) (ps : List K2) (w : World) (hx : Q.Ints po ps w) (hc : ps.length ≤ pcap) (hlen : Hid (ps.length ≤ 1048576)) :
    Calls Try.prog 15 #[.slice po ps.length pcap] w fun e w' => TwinIs ps w e w' := by
  have Hx := hide' hx
  have hp64 : (ps.length : Int) ≤ 1048576 := by have := hlen.out; omega
  clear hx
  go_enter Try.func15, Try.ntmps15
  go_wp2_with fail
  go_loopw [3, 4] (fun o i wx => ∃ j : Nat, i = .int .i64 (j : Int) ∧ j ≤ ps.length ∧ ∃ ao cap, o = .slice ao j cap ∧ Q.RowI w.heap.size ao cap (ps.take j) wx ∧ Below w.heap.size w wx) (fun _ i _ => ps.length - (intOf i).toNat)
  case atStart => exact ⟨0, rfl, by omega, none, 0, rfl, Q.RowI.nil _ _, Below.refl _ _⟩
  case round =>
    obtain ⟨j, rfl, hjl, ao, cap, rfl, hR, hB⟩ := hrel
    by_cases hlt : j < ps.length
    · have hlt' : (j : Int) < (ps.length : Int) := by omega
      obtain ⟨p, hp⟩ : ∃ p, ps[j]? = some p := ⟨_, List.getElem?_eq_getElem hlt⟩
      obtain ⟨pb, off, rfl, hpb, p0, p1⟩ := (Hx.out.below hB).at hp
      have htk : Hid (ps.take (j + 1) = ps.take j ++ [p]) := by show _ = _; rw [List.take_add_one, hp]; rfl
      have hln : Hid ((ps.take j).length = j) := by show _ = _; simp; omega
      have HR := hide' (And.intro hR hB)
      have hwz := hB.size
      clear hp hR hB
      go_wp2_with (at_builtin; refine Q.wpList_app1 _ rfl _ _ rfl w.heap.size ao cap (ps.take j) p _ _ (by rw [hln.out]; rfl) HR.out.1 rfl (by show _ < _; rw [hln.out]; omega) hwz ?_; intro g cap2 w2 r2 t2 hg2 hl2; rw [hln.out]; have A2 := hide' (And.intro r2 t2); clear r2 t2 hg2 hl2)
      exact ⟨⟨j + 1, by go_num, by omega, some ⟨g, 0, none⟩, cap2, rfl, by rw [htk.out]; exact A2.out.1, HR.out.2.trans (W.below3 A2.out.2 (fun i q => (HR.out.1.lt i q).1) hwz)⟩, by simp [intOf]; omega⟩
    · have hjn : ps.length = j := by omega
      subst hjn
      have hlt' : ¬ (ps.length : Int) < (ps.length : Int) := by omega
      rw [List.take_length] at hR
      have HR := hide' (And.intro hR hB)
      clear hR hB hlt hjl
      go_wp2_with fail
      go_loopw [3, 5] (fun o i wx => ∃ j : Nat, i = .int .i64 (j : Int) ∧ j ≤ 24 ∧ ∃ ao cap, o = .slice ao (ps.length + j) cap ∧ Q.RowI w.heap.size ao cap (ps ++ List.replicate j sp) wx ∧ Below w.heap.size w wx) (fun _ i _ => 24 - (intOf i).toNat)
      case atStart => exact ⟨0, rfl, by omega, ao, cap, rfl, by simpa using HR.out.1, HR.out.2⟩
      case round =>
        obtain ⟨j, rfl, hjl, ao, cap, rfl, hR, hB⟩ := hrel
        have H2 := hide' (And.intro hR hB)
        have hwz := hB.size
        clear hR hB
        by_cases hlt : j < 24
        · have hlt' : (j : Int) < 24 := by omega
          have hln : Hid ((ps ++ List.replicate j sp).length = ps.length + j) := by show _ = _; simp
          go_wp2_with (at_builtin; refine Q.wpList_app1 _ rfl _ _ rfl w.heap.size ao cap (ps ++ List.replicate j sp) sp _ _ (by rw [hln.out]; rfl) H2.out.1 rfl (by show _ < _; rw [hln.out]; omega) hwz ?_; intro g cap2 w2 r2 t2 hg2 hl2; rw [hln.out]; have A2 := hide' (And.intro r2 t2); clear r2 t2 hg2 hl2)
          exact ⟨⟨j + 1, by go_num, by omega, some ⟨g, 0, none⟩, cap2, by rw [Nat.add_assoc], by rw [List.replicate_succ', ← List.append_assoc]; exact A2.out.1, H2.out.2.trans (W.below3 A2.out.2 (fun i q => (H2.out.1.lt i q).1) hwz)⟩, by simp [intOf]; omega⟩
        · have hj24 : j = 24 := by omega
          subst hj24
          rw [show ((24 : Nat) : Int) = 24 from rfl]
          obtain ⟨g, rfl, hgB, hgl, hgc⟩ : ∃ g, ao = some ⟨g, 0, none⟩ ∧ w.heap.size ≤ g ∧ g < wr.heap.size ∧ ps.length + 24 ≤ cap := by
            rcases H2.out.1.form with ⟨_, e, _⟩ | ⟨g, e, h1, h2, h3⟩
            · simp at e
            · exact ⟨g, e, h1, h2, by simpa using h3⟩
          have K : Hid (TwinIs ps w (.returned (.slice (some ⟨g, 0, none⟩) ps.length cap)) wr) := ⟨g, cap, rfl, H2.out.1, H2.out.2⟩
          have hs1 : (ps.length : Int) ≤ (cap : Int) := by omega
          have hs2 : ps.length ≤ cap := by omega
          go_wp2_with fail
          go_ret
          exact K.out
end L
end Go.Proofs.Ytmdkgiglibfihaa
