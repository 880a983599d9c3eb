import Derived.Test.YtnlopepbcnegbaaGreatDoorJK
import Derived.Laws.StructEq
import Derived.Deep.RegionHeld3
import Derived.Deep.QuietTactic
set_option linter.unusedVariables false
set_option linter.unusedSimpArgs false
namespace Go.Proofs.YtnlopepbcnegbaaGreatDoor
open Go.RowKit
attribute [local go_sem] Oper.semAt_some
namespace Sx
theorem fof : Tryz.prog.underlying 52 = some (.struct (Tryz.prog.fieldsOf 52)) := by kernel_rfl
theorem hld : Tryz.prog.stoodInHeld 52 = false := by kernel_rfl
set_option maxRecDepth 100000 in
theorem flds (d : Nat) (a b c : Int) (s : ByteArray) (w : World) : (Op.eqFields (d + 1) #[.int .i8 a, .string s, .int .i64 b, .int .i64 c] #[.int .i8 a, .string s, .int .i64 b, .int .i64 c] (Tryz.prog.fieldsOf 52).toList).run Tryz.prog w = .ok true w := by
  have h1 : (Tryz.prog.fieldsOf 52) = (match Tryz.prog.underlying 52 with | some (.struct fs) => fs | _ => #[]) := rfl
  rw [h1, Tryz.underlying52]
  simp [Op.eqFields, go_sem, Tryz.underlying3, Tryz.underlying9, Tryz.underlying50]
theorem struct_ne (a b c : Int) (s : ByteArray) (w : World) : (binOp .neq 52 (.agg #[.int .i8 a, .string s, .int .i64 b, .int .i64 c]) (.agg #[.int .i8 a, .string s, .int .i64 b, .int .i64 c])).run Tryz.prog w = .ok (.bool false) w := by
  rw [run_neq_struct]
  have := run_equalIn_agg (P := Tryz.prog) w 9999 52 #[.int .i8 a, .string s, .int .i64 b, .int .i64 c] #[.int .i8 a, .string s, .int .i64 b, .int .i64 c] fof hld
  rw [show (10000 : Nat) = 9999 + 1 from rfl, this, show (9999 : Nat) = 9998 + 1 from rfl, flds]
  rfl
theorem info22 : (Tryz.prog.info? 22).map (fun i => (i.zero, i.size, i.bytes)) = some (some (.slice none 0 0), 1, 24) := by kernel_rfl
theorem msr' {k n : Nat} (h : k < n) (i : Int) (e : i = (k : Int) + 1) : n - (intOf (.int .i64 i)).toNat < n - (intOf (.int .i64 (k : Int))).toNat := by
  rw [e]
  show n - ((k : Int) + 1).toNat < n - (k : Int).toNat
  omega
theorem msr2 {k n : Nat} (h : k < n) (i : Int) (e : i = (k : Int) + 2) : n + 1 - (intOf (.int .i64 i)).toNat < n + 1 - (intOf (.int .i64 (k : Int))).toNat := by
  rw [e]
  show n + 1 - ((k : Int) + 2).toNat < n + 1 - (k : Int).toNat
  omega
theorem wrap_in' {x : Int} (h : -9223372036854775808 ≤ x ∧ x ≤ 9223372036854775807) : wrap64 x = x := by unfold wrap64; omega
/-- what a store of four cells reads -/
theorem cells4' {w : World} {g k : Nat} {u0 u1 u2 u3 : Value} (c0 : w.cell? ⟨g, k * 4, none⟩ = some u0) (c1 : w.cell? ⟨g, k * 4 + 1, none⟩ = some u1) (c2 : w.cell? ⟨g, k * 4 + 2, none⟩ = some u2) (c3 : w.cell? ⟨g, k * 4 + 3, none⟩ = some u3) (hf : ∀ i, w.frozen? ⟨g, i, none⟩ = false) (v0 v1 v2 : Value) :
    (w.setCell ⟨g, k * 4, none⟩ v0).cell? ⟨g, k * 4 + 1, none⟩ = some u1 ∧ (w.setCell ⟨g, k * 4, none⟩ v0).frozen? ⟨g, k * 4 + 1, none⟩ = false ∧ ((w.setCell ⟨g, k * 4, none⟩ v0).setCell ⟨g, k * 4 + 1, none⟩ v1).cell? ⟨g, k * 4 + 2, none⟩ = some u2 ∧ ((w.setCell ⟨g, k * 4, none⟩ v0).setCell ⟨g, k * 4 + 1, none⟩ v1).frozen? ⟨g, k * 4 + 2, none⟩ = false ∧
    (((w.setCell ⟨g, k * 4, none⟩ v0).setCell ⟨g, k * 4 + 1, none⟩ v1).setCell ⟨g, k * 4 + 2, none⟩ v2).cell? ⟨g, k * 4 + 3, none⟩ = some u3 ∧ (((w.setCell ⟨g, k * 4, none⟩ v0).setCell ⟨g, k * 4 + 1, none⟩ v1).setCell ⟨g, k * 4 + 2, none⟩ v2).frozen? ⟨g, k * 4 + 3, none⟩ = false := by
  refine ⟨(World.cell?_setCell_other _ _ _ _ (by simp)).trans c1, by rw [World.frozen?_setCell]; exact hf _, ((World.cell?_setCell_other _ _ _ _ (by simp)).trans (World.cell?_setCell_other _ _ _ _ (by simp))).trans c2, by rw [World.frozen?_setCell, World.frozen?_setCell]; exact hf _, (((World.cell?_setCell_other _ _ _ _ (by simp)).trans (World.cell?_setCell_other _ _ _ _ (by simp))).trans (World.cell?_setCell_other _ _ _ _ (by simp))).trans c3, by rw [World.frozen?_setCell, World.frozen?_setCell, World.frozen?_setCell]; exact hf _⟩
theorem rd_at {w : World} {ao : Option Addr} {zs : List Tkn} (h : RdS w ao zs) {t : Nat} {p : Tkn} (hp : zs[t]? = some p) : ∃ g off, ao = some ⟨g, off, none⟩ ∧ w.cell? ⟨g, off + t * 4, none⟩ = some (.int .i8 p.1) ∧ w.cell? ⟨g, off + t * 4 + 1, none⟩ = some (.string p.2.1) ∧ w.cell? ⟨g, off + t * 4 + 2, none⟩ = some (.int .i64 p.2.2.1) ∧ w.cell? ⟨g, off + t * 4 + 3, none⟩ = some (.int .i64 p.2.2.2) := by
  obtain ⟨ht, e⟩ := List.getElem?_eq_some_iff.1 hp
  rcases h with h | ⟨g, off, e1, _, hc⟩
  · subst h; simp at ht
  · subst e
    exact ⟨g, off, e1, hc t ht⟩
theorem fn_at (G : Nat → Rw) (X : Nat → List Tkn) (i t : Nat) (he : i % 2 = 0) (h : t < (G i).len) : (Fn G X i)[t]? = some (k77 i) := by simp [Fn, he, h]
theorem hn_at1 (G : Nat → Rw) (X : Nat → List Tkn) (i t k : Nat) (he : i % 2 = 0) (h : t < (G i).len) : (Hn G X i k)[t]? = some (k77 i) := by
  unfold Hn
  rw [List.getElem?_append_left (by simp [Fn, he, h])]
  exact fn_at G X i t he h
theorem hn_at2 (G : Nat → Rw) (X : Nat → List Tkn) (i t k : Nat) (he : i % 2 = 0) (h : (G i).len ≤ t) (h2 : t < (G i).len + k) : (Hn G X i k)[t]? = some (k78 i) := by
  have hl : (Fn G X i).length = (G i).len := by simp [Fn, he]
  unfold Hn
  rw [List.getElem?_append_right (by rw [hl]; exact h), hl]
  simp [show t - (G i).len < k by omega]
theorem rd_turn {S : Nat → Prop} {v : Value} {xs : List Tkn} {w w' : World} (h : Rd v xs w) (t : Turn S w w') (hn : ∀ g, v.ownBlock = some g → ¬ S g) : Rd v xs w' := by
  obtain ⟨ao, cap, h1, h0, h2⟩ := h
  refine ⟨ao, cap, h1, h0, fun j x hx => ?_⟩
  obtain ⟨g, e, c0, c1, c2, c3⟩ := h2 j x hx
  have hl : g < w.heap.size := lt_of_cell c0
  have hS : ¬ S g := hn g (by rw [h1, e]; rfl)
  exact ⟨g, e, (t.cell (p := ⟨g, j * 4, none⟩) hl hS).trans c0, (t.cell (p := ⟨g, j * 4 + 1, none⟩) hl hS).trans c1, (t.cell (p := ⟨g, j * 4 + 2, none⟩) hl hS).trans c2, (t.cell (p := ⟨g, j * 4 + 3, none⟩) hl hS).trans c3⟩
/-- what apart asks of what was handed in -/
structure In (B N : Nat) (G U : Nat → Rw) (X : Nat → List Tkn) (ga wa : Option Addr) (w : World) : Prop where
  bl : B ≤ w.heap.size
  gs : Sl w ga N (fun i => (G i).v)
  ws : Sl w wa N (fun i => (U i).v)
  rows : Rows B N G X w
  want : ∀ i, i < N → Rd (U i).v (X i) w ∧ ∀ g, At (U i).ao g → g < B
theorem In.turn {B N : Nat} {G U : Nat → Rw} {X : Nat → List Tkn} {ga wa : Option Addr} {w w' : World} (h : In B N G U X ga wa w) (t : Turn (fun _ => False) w w') : In B N G U X ga wa w' :=
  ⟨Nat.le_trans h.bl t.size, h.gs.turn t (fun _ _ _ _ q => q), h.ws.turn t (fun _ _ _ _ q => q), h.rows.kept t (fun _ _ _ _ q => q), fun i hi => ⟨rd_turn (h.want i hi).1 t (fun _ _ q => q), (h.want i hi).2⟩⟩
/-- behind the writing -/
theorem In.late {B N : Nat} {G U : Nat → Rw} {X C : Nat → List Tkn} {ga wa : Option Addr} {w w' : World} (h : In B N G U X ga wa w) (t : Turn (Ds N G) w w') : Sl w' ga N (fun i => (G i).v) ∧ Sl w' wa N (fun i => (U i).v) ∧ ∀ i, i < N → Rd (U i).v (X i) w' := by
  refine ⟨h.gs.turn t (fun j cs r hh => h.rows.no22 j cs r hh), h.ws.turn t (fun j cs r hh => h.rows.no22 j cs r hh), fun i hi => rd_turn (h.want i hi).1 t (fun g hg q => ?_)⟩
  have h1 := (h.want i hi).2 g (own_at (ao := (U i).ao) (n := (U i).len) (cap := (U i).cap) hg)
  have h2 := (h.rows.kind q).1
  omega
theorem rd_val {r : Rw} {xs : List Tkn} {w : World} (h : Rd r.v xs w) : xs.length = r.len := by
  obtain ⟨ao, cap, h1, _⟩ := h
  unfold Rw.v at h1
  simp only [Value.slice.injEq] at h1
  exact h1.2.1.symm
theorem row_rd {B N : Nat} {G : Nat → Rw} {C : Nat → List Tkn} {w : World} (h : Rows B N G C w) {i : Nat} (hi : i < N) : Rd (G i).v (C i) w := by
  obtain ⟨h1, h2⟩ := h i hi
  unfold Rw.v
  rw [← h1]
  exact rd_row h2
set_option maxRecDepth 100000 in
set_option maxHeartbeats 8000000 in
theorem apart_any {B N : Nat} (ga wa : Option Addr) (gc wc : Nat) (G U : Nat → Rw) (X : Nat → List Tkn) (w : World) (hN : N ≤ 1000) (hI : In B N G U X ga wa w) (hD : Dj N G) (hL : ∀ i, i < N → (X i).length ≤ 70000) :
    Calls Tryz.prog 11 #[.slice ga N gc, .slice wa N wc] w fun e w' => e = .returned (.bool true) ∧ Turn (Ds N G) w w' := by
  have E1 : Hid (∀ k : Nat, k ≤ 1000000 → wrap64 ((k : Int) + 1) = (k : Int) + 1) := hide' (fun k hk => wrap_in' (by omega))
  have E2 : Hid (∀ k : Nat, k ≤ 1000000 → wrap64 ((k : Int) + 2) = (k : Int) + 2) := hide' (fun k hk => wrap_in' (by omega))
  have HN := hide' hN
  have HI := hide' hI
  have HD := hide' hD
  have HL := hide' hL
  clear hN hI hD hL
  go_enter Tryz.func11, Tryz.ntmps11
  go_wp2_with fail
  go_loopw [5] (fun i wx => ∃ (k : Nat) (V : World), V = wx ∧ i = .int .i64 (k : Int) ∧ k ≤ N ∧ Below w.heap.size w V) (fun i _ => N - (intOf i).toNat)
  case atStart => exact ⟨0, _, rfl, rfl, Nat.zero_le _, Below.refl _ _⟩
  case round =>
    obtain ⟨k, V, rfl, rfl, hk, bw⟩ := hrel
    have Bw := hide' bw
    have HV := hide' (HI.out.turn (turn_below bw))
    clear bw
    by_cases hlt : k < N
    · have hlt' : (k : Int) < (N : Int) := by omega
      obtain ⟨gb, go, hga, hgc⟩ := HV.out.gs.get hlt
      obtain ⟨lb, lo, hwa, hwc⟩ := HV.out.ws.get hlt
      have e1 := E1.out k (by have := HN.out; omega)
      have Hend := hide' (msr' hlt _ e1)
      have HS := hide' (fun W (b : Below V.heap.size V W) => same_any ((row_rd HV.out.rows hlt).below b) ((HV.out.want k hlt).1.below b) (HL.out k hlt))
      have Hlt := hide' hlt
      unfold Rw.v at hgc hwc HS
      subst hga hwa
      clear hk hlt
      go_upto_region 4 with fail
      go_region_held3 (fun w' => w'.cell? ⟨gb, go + k, none⟩ = some (.slice (G k).ao (G k).len (G k).cap) ∧ w'.cell? ⟨lb, lo + k, none⟩ = some (.slice (U k).ao (U k).len (U k).cap) ∧ Below V.heap.size V w') (first | (exact ⟨hgc, hwc, below_drew _⟩) | go_keep | (obtain ⟨k1, k2, k3⟩ := ‹_ ∧ _ ∧ _›; exact ⟨below_keeps ‹Below _ _ _› k1, below_keeps ‹Below _ _ _› k2, k3.trans (‹Below _ _ _›.mono k3.size)⟩)) (first | (go_at_call 12; refine (HS.out _ (by first | assumption | exact below_drew _)).mono ?_; rintro e w5 ⟨rfl, b5⟩))
      go_wp2_with fail
      exact ⟨⟨k + 1, w5, rfl, by first | rfl | (rw [e1]; rfl), Hlt.out, Bw.out.trans ((below_drew V).trans b5 |>.mono Bw.out.size)⟩, Hend.out⟩
    · have hlt' : ¬ (k : Int) < (N : Int) := by omega
      have TV := hide' (turn_below (S := Ds N G) Bw.out)
      have I0 : Hid (S2 B N G X V 0 0 X V) := hide' ⟨HV.out.rows, Turn.refl _ V, rfl, fun _ _ => rfl, fun i _ h => by omega, fun j h => by omega⟩
      clear hk hlt HI Bw
      go_wp2_with fail
      go_loopw [6] (fun i wx => ∃ (p : Nat) (C : Nat → List Tkn), i = .int .i64 (p : Int) ∧ p ≤ N + 1 ∧ S2 B N G X V p 0 C wx) (fun i _ => N + 1 - (intOf i).toNat)
      case atStart => exact ⟨0, X, rfl, Nat.zero_le _, I0.out⟩
      case round =>
        obtain ⟨p, C, rfl, hp, hS⟩ := hrel
        have HS := hide' hS
        clear hS I0
        by_cases hlt : p < N
        · have hlt' : (p : Int) < (N : Int) := by omega
          have Hlt := hide' hlt
          clear hp
          go_wp2_with fail
          go_loopw [7] (fun i wx => ∃ (k : Nat) (C : Nat → List Tkn), i = .int .i64 (k : Int) ∧ k ≤ (G p).len ∧ S2 B N G X V p k C wx) (fun i _ => (G p).len - (intOf i).toNat)
          case atStart => exact ⟨0, C, rfl, Nat.zero_le _, HS.out⟩
          case round =>
            obtain ⟨k, C2, rfl, hk, hS2⟩ := hrel
            have HS2 := hide' hS2
            obtain ⟨gb, go, hga, hgc⟩ := (HV.out.late (C := C2) hS2.tn).1.get hlt
            have hlen : (G p).len ≤ 70000 := by have h1 := (HV.out.rows p hlt).1; have h2 := HL.out p hlt; omega
            unfold Rw.v at hgc
            subst hga
            clear hS2
            by_cases hkl : k < (G p).len
            · have hkl' : (k : Int) < ((G p).len : Int) := by omega
              have e1 := E1.out k (by omega)
              have Hend := hide' (msr' hkl _ e1)
              obtain ⟨g, u0, u1, u2, u3, C3, hgp, hle, c0, c1, c2, c3, hf, hS3⟩ := HS2.out.put HD.out hlt hkl
              obtain ⟨d1, f1, d2, f2, d3, f3⟩ := cells4' c0 c1 c2 c3 hf (.int .i8 77) (.string ⟨#[]⟩) (.int .i64 (p : Int))
              have f0 := hf (k * 4)
              have HS3 := hide' hS3
              have Hk := hide' hkl
              generalize (G p).len = gl at *
              generalize (G p).cap = gp at *
              rw [hgp] at hgc
              clear hS3 hk hgp hle hf hlen c1 c2 c3
              go_wp2_with fail
              exact ⟨⟨k + 1, C3, by first | rfl | (rw [e1]; rfl), Hk.out, HS3.out⟩, by first | exact Hend.out | (rw [← e1]; exact Hend.out)⟩
            · have hkl' : ¬ (k : Int) < ((G p).len : Int) := by omega
              have HS3 : Hid (S2 B N G X V (p + 2) 0 C2 wr) := hide' (S2.next (by have := HS2.out; rw [show k = (G p).len by omega] at this; exact this) hlt)
              have e1 := E2.out p (by have := HN.out; omega)
              have Hend := hide' (msr2 hlt _ e1)
              generalize (G p).len = gl at *
              clear hk hkl hlen
              go_wp2_with fail
              exact ⟨⟨p + 2, C2, by first | rfl | (rw [e1]; rfl), by have := Hlt.out; omega, HS3.out⟩, by first | exact Hend.out | (rw [← e1]; exact Hend.out)⟩
        · have hlt' : ¬ (p : Int) < (N : Int) := by omega
          obtain ⟨hR2, hT2⟩ := HS.out.done (by omega)
          have I0 := hide' (S3.none_ hR2 hT2)
          clear hR2 hT2 HS hlt hp
          go_wp2_with fail
          go_loopw [8, 9] (fun lv i wx => ∃ (p sz : Nat) (L : Nat → Rw) (la : Option Addr) (lc : Nat), i = .int .i64 (p : Int) ∧ lv = .slice la p lc ∧ p ≤ N ∧ S3 B N G X V p sz L la lc wx) (fun _ i _ => N - (intOf i).toNat)
          case atStart => exact ⟨0, _, G, none, 0, rfl, rfl, Nat.zero_le _, I0.out⟩
          case round =>
            obtain ⟨p, sz, L, la, lc, rfl, rfl, hp, hS⟩ := hrel
            have HS := hide' hS
            clear I0
            by_cases hlt : p < N
            · have hlt' : (p : Int) < (N : Int) := by omega
              have Hlt := hide' hlt
              obtain ⟨gb, go, hga, hgc⟩ := (HV.out.late (C := X) hS.tn).1.get hlt
              unfold Rw.v at hgc
              subst hga
              clear hS hp
              go_wp2_with fail
              go_loopw [10, 11] (fun lv i wx => ∃ (k : Nat) (l : Rw), i = .int .i64 (k : Int) ∧ lv = .slice l.ao l.len l.cap ∧ k ≤ ext p ∧ S4 B N G X V p sz L la lc k l wx) (fun _ i _ => ext p - (intOf i).toNat)
              case atStart => exact ⟨0, G p, rfl, rfl, Nat.zero_le _, HS.out.start hlt⟩
              case round =>
                obtain ⟨k, l, rfl, rfl, hk, hS4⟩ := hrel
                have H4 := hide' hS4
                clear hS4 HS
                by_cases hk12 : k < ext p
                · have he : p % 2 = 0 := by unfold ext at hk12; split at hk12 <;> omega
                  have hx : ext p = 70 := by unfold ext; rw [if_pos he]
                  have hk12' : (k : Int) < 70 := by omega
                  have htm : (p : Int).tmod 2 = 0 := by rw [Int.tmod_eq_emod_of_nonneg (by omega)]; omega
                  have e1 := E1.out k (by omega)
                  have Hend := hide' (msr' hk12 _ e1)
                  have HP := hide' hk12
                  have HB' : Hid (B ≤ wr.heap.size) := hide' (Nat.le_trans HV.out.bl H4.out.st.tn.size)
                  have n1 : Hid (l.len < 1000000) := hide' (by have := H4.out.ll; have h1 := (HV.out.rows p hlt).1; have h2 := HL.out p hlt; omega)
                  have HLn : Hid ((Hn G X p k).length = l.len) := hide' (by rw [Hn.len H4.out.st.rows hlt]; exact H4.out.ll.symm)
                  clear hk hk12 he hx
                  go_wp2_with (at_builtin; refine wpList_tk wr rfl _ _ rfl HLn.out H4.out.own n1 HB'.out (k78 p) _ rfl rfl ?_; intro gg cap' w1 r1 t1 hg1; have K1 := hide' (H4.out.step HV.out.rows HD.out Hlt.out r1 t1 hg1); clear r1 t1 hg1)
                  exact ⟨⟨k + 1, ⟨some ⟨gg, 0, none⟩, l.len + 1, cap'⟩, by first | rfl | (rw [e1]; rfl), rfl, HP.out, K1.out⟩, by first | exact Hend.out | (rw [← e1]; exact Hend.out)⟩
                · have H4' : Hid (S4 B N G X V p sz L la lc (ext p) l wr) := hide' (by have := H4.out; rw [show k = ext p by omega] at this; exact this)
                  have Hend := hide' (msr' hlt _ (E1.out p (by have := HN.out; omega)))
                  have hke : k = ext p := by omega
                  clear hk H4 hk12
                  by_cases he : p % 2 = 0
                  · have hx : ext p = 70 := by unfold ext; rw [if_pos he]
                    have hk12' : ¬ (k : Int) < 70 := by omega
                    clear hke hx he
                    go_wp2_with (at_builtin; refine wpList_more (e := 22) (m := 1) Tryz.underlying35 info22 rfl (by omega) (by omega) wr rfl _ _ rfl H4'.out.st.row (by have := HN.out; have := Hlt.out; omega) H4'.out.st.tn.size [.slice l.ao l.len l.cap] rfl (by simp [Value.oneCell']) _ rfl rfl ?_; intro gg cap' w1 r1 t1 hg1; have K1 := hide' (H4'.out.st.more HV.out.rows Hlt.out H4'.out r1 t1); clear r1 t1 hg1)
                    exact ⟨⟨p + 1, _, _, _, _, by first | rfl | (rw [E1.out p (by have := HN.out; omega)]; rfl), rfl, Hlt.out, K1.out⟩, by first | exact Hend.out | (rw [← E1.out p (by have := HN.out; omega)]; exact Hend.out)⟩
                  · have hx : ext p = 0 := by unfold ext; rw [if_neg he]
                    have hk12' : (k : Int) < 70 := by omega
                    have htm : (p : Int).tmod 2 = 1 := by rw [Int.tmod_eq_emod_of_nonneg (by omega)]; omega
                    clear hke hx he
                    go_wp2_with (at_builtin; refine wpList_more (e := 22) (m := 1) Tryz.underlying35 info22 rfl (by omega) (by omega) wr rfl _ _ rfl H4'.out.st.row (by have := HN.out; have := Hlt.out; omega) H4'.out.st.tn.size [.slice l.ao l.len l.cap] rfl (by simp [Value.oneCell']) _ rfl rfl ?_; intro gg cap' w1 r1 t1 hg1; have K1 := hide' (H4'.out.st.more HV.out.rows Hlt.out H4'.out r1 t1); clear r1 t1 hg1)
                    exact ⟨⟨p + 1, _, _, _, _, by first | rfl | (rw [E1.out p (by have := HN.out; omega)]; rfl), rfl, Hlt.out, K1.out⟩, by first | exact Hend.out | (rw [← E1.out p (by have := HN.out; omega)]; exact Hend.out)⟩
            · obtain rfl : N = p := by omega
              have HT := hide' hS.tn
              have HGW := hide' (HV.out.late (C := X) hS.tn)
              have HLW := hide' (Sl.of_row (lc := lc) hS.row)
              have HI := hide' (fun i (hi : i < N) => (show (L i).len = (G i).len + ext i ∧ RdS wr (L i).ao (Hn G X i (ext i)) ∧ RdS wr (G i).ao (Fn G X i) ∧ Rd (G i).v (Fn G X i) wr from ⟨(hS.lg i hi).1, (hS.lg i hi).2.1, RdS.of_row (hS.rows i hi).2, row_rd hS.rows hi⟩))
              have HLE := hide' (fun i (hi : i < N) => (show (G i).len ≤ 70000 by have h1 := (HV.out.rows i hi).1; have h2 := HL.out i hi; omega))
              clear hS HS hlt hp HD HV
              generalize wr = W at *
              go_wp2_with fail
              go_loopw [12] (fun i wx => ∃ (k : Nat) (W2 : World), W2 = wx ∧ i = .int .i64 (k : Int) ∧ k ≤ N ∧ Below W.heap.size W W2) (fun i _ => N - (intOf i).toNat)
              case atStart => exact ⟨0, _, rfl, rfl, Nat.zero_le _, Below.refl _ _⟩
              case round =>
                obtain ⟨k, W2, rfl, rfl, hk, bw⟩ := hrel
                have Bw := hide' bw
                clear bw
                by_cases hlt : k < N
                · have hlt' : (k : Int) < (N : Int) := by omega
                  have e1 := E1.out k (by have := HN.out; omega)
                  have Hend := hide' (msr' hlt _ e1)
                  have Hlt := hide' hlt
                  obtain ⟨gb, go, hga, hgc⟩ := (HGW.out.1.turn (turn_below (S := fun _ => False) Bw.out) (fun _ _ _ _ q => q)).get hlt
                  obtain ⟨ub, uo, hua, huc⟩ := (HGW.out.2.1.turn (turn_below (S := fun _ => False) Bw.out) (fun _ _ _ _ q => q)).get hlt
                  obtain ⟨lb, lo, hla, hlc⟩ := (HLW.out.turn (turn_below (S := fun _ => False) Bw.out) (fun _ _ _ _ q => q)).get hlt
                  unfold Rw.v at hgc huc hlc
                  have HG2 := hide' (fun V2 (b : Below W2.heap.size W2 V2) => (b.cell (p := ⟨gb, go + k, none⟩) (lt_of_cell hgc)).trans hgc)
                  have HL2 := hide' (fun V2 (b : Below W2.heap.size W2 V2) => (b.cell (p := ⟨lb, lo + k, none⟩) (lt_of_cell hlc)).trans hlc)
                  have HW2 := hide' Bw.out
                  have HIk := hide' (HI.out k hlt)
                  have HLk := hide' (HLE.out k hlt)
                  subst hga hua hla
                  by_cases he : k % 2 = 0
                  · have htm : (k : Int).tmod 2 = 0 := by rw [Int.tmod_eq_emod_of_nonneg (by omega)]; omega
                    have hx : ext k = 70 := by unfold ext; rw [if_pos he]
                    have He := hide' he
                    rw [hx] at HIk
                    have hll := HIk.out.1
                    rw [hll] at hlc HL2
                    have ms : Hid (Below W2.heap.size W2 W2) := hide' (Below.refl _ _)
                    clear hk hlt he hx hll
                    go_upto_region 26 with fail
                    go_quiet (fail)
                    go_wp2_with fail
                    go_loopw [13, 14] (fun i _ wx => ∃ (t : Nat) (V2 : World), V2 = wx ∧ i = .int .i64 (t : Int) ∧ t ≤ (G k).len + 70 ∧ Below W2.heap.size W2 V2) (fun i _ _ => (G k).len + 70 - (intOf i).toNat)
                    case atStart => exact ⟨0, _, rfl, rfl, Nat.zero_le _, (Below.refl _ _).trans (below_drewN _ _ nq)⟩
                    case round =>
                      obtain ⟨t, V2, rfl, rfl, ht, bw⟩ := hrel
                      have B2 := hide' bw
                      have c1 := HG2.out V2 bw
                      have c2 := HL2.out V2 bw
                      have tw := turn_below (S := fun _ => False) (HW2.out.trans (bw.mono HW2.out.size))
                      have RG := hide' (rdS_turn HIk.out.2.2.1 tw (fun _ _ _ q => q))
                      have RL := hide' (rdS_turn HIk.out.2.1 tw (fun _ _ _ q => q))
                      clear bw tw hgc huc hlc
                      by_cases htl : t < (G k).len + 70
                      · have e2 := E1.out t (by have := HLk.out; omega)
                        have Hend2 := hide' (msr' htl _ e2)
                        have Htl := hide' htl
                        have htl' : (t : Int) < (((G k).len + 70 : Nat) : Int) := by omega
                        by_cases htn : t < (G k).len
                        · obtain ⟨g1, o1, h1, a0, a1, a2, a3⟩ := rd_at RG.out (fn_at G X k t He.out htn)
                          obtain ⟨g2, o2, h2, b0, b1, b2, b3⟩ := rd_at RL.out (hn_at1 G X k t 70 He.out htn)
                          replace a0 : V2.cell? ⟨g1, o1 + t * 4, none⟩ = some (.int .i8 77) := a0
                          replace a1 : V2.cell? ⟨g1, o1 + t * 4 + 1, none⟩ = some (.string ⟨#[]⟩) := a1
                          replace a2 : V2.cell? ⟨g1, o1 + t * 4 + 2, none⟩ = some (.int .i64 (k : Int)) := a2
                          replace a3 : V2.cell? ⟨g1, o1 + t * 4 + 3, none⟩ = some (.int .i64 0) := a3
                          replace b0 : V2.cell? ⟨g2, o2 + t * 4, none⟩ = some (.int .i8 77) := b0
                          replace b1 : V2.cell? ⟨g2, o2 + t * 4 + 1, none⟩ = some (.string ⟨#[]⟩) := b1
                          replace b2 : V2.cell? ⟨g2, o2 + t * 4 + 2, none⟩ = some (.int .i64 (k : Int)) := b2
                          replace b3 : V2.cell? ⟨g2, o2 + t * 4 + 3, none⟩ = some (.int .i64 0) := b3
                          rw [h1] at c1
                          rw [h2] at c2
                          have sn := hide' (struct_ne 77 (k : Int) 0 ⟨#[]⟩)
                          have Hfa := hide' (And.intro htn (And.intro htl Hlt.out))
                          have Hcs := hide' (And.intro c1 (And.intro a0 (And.intro a1 (And.intro a2 a3))))
                          have Hb := hide' (And.intro c2 (And.intro b0 (And.intro b1 (And.intro b2 b3))))
                          clear h1 h2 ht a0 a1 a2 a3 b0 b1 b2 b3 htn htl
                          generalize (L k).cap = lcp at *
                          generalize (L k).ao = lao at *
                          generalize (G k).cap = gcp at *
                          generalize (G k).ao = gao at *
                          generalize (G k).len = n at *
                          go_wp2_with fail
                          refine g32a (by have := Hfa.out; omega) (by have := Hfa.out; omega) (by have := Hfa.out; omega) (by have := Hfa.out; omega) Hfa.out.1 Hfa.out.2.1 Hfa.out.2.2 sn.out ⟨Hcs.out.1, Hcs.out.2.1, Hcs.out.2.2.1, Hcs.out.2.2.2.1, Hcs.out.2.2.2.2, Hb.out.1, Hb.out.2.1, Hb.out.2.2.1, Hb.out.2.2.2.1, Hb.out.2.2.2.2⟩ ?_
                          clear c1 c2
                          go_wp2_with fail
                          exact ⟨⟨t + 1, _, rfl, by first | rfl | (rw [e2]; rfl), Htl.out, B2.out.trans ((below_drew _).mono B2.out.size)⟩, by first | exact Hend2.out | (rw [← e2]; exact Hend2.out)⟩
                        · obtain ⟨g2, o2, h2, b0, b1, b2, b3⟩ := rd_at RL.out (hn_at2 G X k t 70 He.out (by omega) htl)
                          replace b0 : V2.cell? ⟨g2, o2 + t * 4, none⟩ = some (.int .i8 78) := b0
                          replace b2 : V2.cell? ⟨g2, o2 + t * 4 + 2, none⟩ = some (.int .i64 (k : Int)) := b2
                          rw [h2] at c2
                          have Hfa := hide' (And.intro htn (And.intro htl Hlt.out))
                          have Hb := hide' (And.intro c2 (And.intro b0 b2))
                          clear h2 ht b0 b1 b2 b3 htn htl
                          generalize (L k).cap = lcp at *
                          generalize (L k).ao = lao at *
                          generalize (G k).cap = gcp at *
                          generalize (G k).ao = gao at *
                          generalize (G k).len = n at *
                          go_wp2_with fail
                          refine g32b (by have := Hfa.out; omega) (by have := Hfa.out; omega) (by have := Hfa.out; omega) (by have := Hfa.out; omega) (by have := Hfa.out; omega) Hfa.out.1 Hfa.out.2.1 Hfa.out.2.2 ⟨Hb.out.1, Hb.out.2.1, Hb.out.2.2⟩ ?_
                          clear c1 c2
                          go_wp2_with fail
                          exact ⟨⟨t + 1, _, rfl, by first | rfl | (rw [e2]; rfl), Htl.out, B2.out.trans ((below_drew _).mono B2.out.size)⟩, by first | exact Hend2.out | (rw [← e2]; exact Hend2.out)⟩
                      · have htl' : ¬ (t : Int) < (((G k).len + 70 : Nat) : Int) := by omega
                        clear ht htl RG RL
                        generalize (L k).cap = lcp at *
                        generalize (L k).ao = lkao at *
                        generalize (G k).len = n at *
                        go_wp2_with fail
                        exact ⟨⟨k + 1, _, rfl, by first | rfl | (rw [e1]; rfl), Hlt.out, HW2.out.trans (B2.out.mono HW2.out.size)⟩, by first | exact Hend.out | (rw [← e1]; exact Hend.out)⟩
                  · have htm : (k : Int).tmod 2 = 1 := by rw [Int.tmod_eq_emod_of_nonneg (by omega)]; omega
                    have hx : ext k = 0 := by unfold ext; rw [if_neg he]
                    rw [hx] at HIk
                    have hll := HIk.out.1
                    rw [Nat.add_zero] at hll
                    have hfn : Fn G X k = X k := by unfold Fn; rw [if_neg he]
                    have hrd := HIk.out.2.2.2
                    rw [hfn] at hrd
                    have HS := hide' (fun W3 (b : Below W2.heap.size W2 W3) => same_any (hrd.below (HW2.out.trans (b.mono HW2.out.size))) ((HGW.out.2.2 k hlt).below (HW2.out.trans (b.mono HW2.out.size))) (HL.out k hlt))
                    unfold Rw.v at HS
                    rw [hll] at hlc HL2
                    clear hk hlt he hx hll hfn hrd
                    go_upto_region 26 with fail
                    go_region_held3 (fun w' => w'.cell? ⟨gb, go + k, none⟩ = some (.slice (G k).ao (G k).len (G k).cap) ∧ w'.cell? ⟨ub, uo + k, none⟩ = some (.slice (U k).ao (U k).len (U k).cap) ∧ Below W2.heap.size W2 w') (first | (exact ⟨hgc, huc, below_drew _⟩) | go_keep | (obtain ⟨k1, k2, k3⟩ := ‹_ ∧ _ ∧ _›; exact ⟨below_keeps ‹Below _ _ _› k1, below_keeps ‹Below _ _ _› k2, k3.trans (‹Below _ _ _›.mono k3.size)⟩)) (first | (go_at_call 12; refine (HS.out _ (by first | assumption | exact below_drew _)).mono ?_; rintro e w5 ⟨rfl, b5⟩))
                    have b25 := hide' ((below_drew W2).trans b5)
                    have c5 := HL2.out w5 b25.out
                    clear HS
                    go_wp2_with fail
                    go_loopw [13] (fun i wx => i = .int .i64 0 ∧ wx = w5) (fun i _ => 0)
                    case atStart => exact ⟨rfl, rfl⟩
                    case round =>
                      obtain ⟨rfl, rfl⟩ := hrel
                      generalize (G k).len = n at *
                      by_cases hz : 0 < n
                      · have hz' : (0 : Int) < (n : Int) := by omega
                        clear hz
                        go_wp2_with fail
                        exact ⟨⟨k + 1, _, rfl, by first | rfl | (rw [e1]; rfl), Hlt.out, HW2.out.trans (b25.out.mono HW2.out.size)⟩, by first | exact Hend.out | (rw [← e1]; exact Hend.out)⟩
                      · have hz' : ¬ (0 : Int) < (n : Int) := by omega
                        clear hz
                        go_wp2_with fail
                        exact ⟨⟨k + 1, _, rfl, by first | rfl | (rw [e1]; rfl), Hlt.out, HW2.out.trans (b25.out.mono HW2.out.size)⟩, by first | exact Hend.out | (rw [← e1]; exact Hend.out)⟩
                · have hlt' : ¬ (k : Int) < (N : Int) := by omega
                  clear hlt hk
                  go_wp2
                  go_ret
                  exact ⟨rfl, (TV.out.trans HT.out).trans (turn_below Bw.out)⟩
end Sx
end Go.Proofs.YtnlopepbcnegbaaGreatDoor
