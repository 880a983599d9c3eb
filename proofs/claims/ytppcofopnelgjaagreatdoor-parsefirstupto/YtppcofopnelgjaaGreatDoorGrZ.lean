import Derived.RangeFuncNested
import Derived.RangeFuncBound
import Derived.RangeFuncCalls
import Derived.RangeFuncLeaves
import Derived.Test.YtppcofopnelgjaaGreatDoorTurn
import Derived.Test.YtppcofopnelgjaaGreatDoorChOf
import Derived.Shelf.Abstract
import Derived.OwnWalkIn
import Derived.TacticsInMore
import Derived.LoopNIn
import Derived.LoopIn
set_option linter.unusedVariables false
set_option linter.unusedSimpArgs false
namespace Go.Proofs.YtppcofopnelgjaaGreatDoor
open Go.RowKit
/-- the blocks of a class are as they were -/
structure Keep (M : Nat → Prop) (W W' : World) : Prop where
  size : W.heap.size ≤ W'.heap.size
  same : ∀ k, M k → k < W.heap.size → W'.heap[k]? = W.heap[k]?
theorem Keep.trans {M : Nat → Prop} {a b c : World} (h : Keep M a b) (k : Keep M b c) : Keep M a c :=
  ⟨Nat.le_trans h.size k.size, fun i hi hl => (k.same i hi (Nat.lt_of_lt_of_le hl h.size)).trans (h.same i hi hl)⟩
theorem turn_putObj (W : World) (l : Nat) (o : Obj) : Turn (fun k => k = l) W (W.putObj l o) :=
  ⟨rfl, rfl, rfl, by simp, fun k _ hk => World.putObj_heap_other hk⟩
theorem keep_putObj {M : Nat → Prop} (W : World) (l : Nat) (o : Obj) (h : ¬ M l) : Keep M W (W.putObj l o) :=
  ⟨by simp, fun k hk _ => World.putObj_heap_other (fun e => h (e ▸ hk))⟩

section
variable {P : Program} {F : Fence} {n : Nat}
/-- AN ITERATOR THAT HAS A BLOCK OF ITS OWN, b, which it turns between the things that it tells: what holds of the other blocks stays; of each thing x that it tells it knows something of the world ('Has x'). It tells each thing behind a new block. Between two things the round keeps the blocks of 'M b', and that new one. -/
def SeqOwn {α : Type} (F : Fence) (n : Nat) (P : Program) (gf : Nat) (lb : Array Value) (encs : α → Array Value) (Has : α → World → Prop) (M : Nat → Nat → Prop) (S Sp : List α → Prop) (Nb : Nat) (w : World) : Prop :=
  ∀ (l : Nat) (J : Nat → List α → World → Prop) (Jx : List α → World → Prop) (W : World), Below w.heap.size w W →
    (∀ b W', W.heap.size ≤ b → b < W'.heap.size → Below W.heap.size W W' → J b [] W') →
    (∀ b pre W1 W2, W.heap.size ≤ b → J b pre W1 → Turn (fun k => k = b) W1 W2 → J b pre W2) →
    (∀ pre W1 W2, Jx pre W1 → Turn (fun _ => False) W1 W2 → Jx pre W2) →
    (∀ b pre x W0 o, W.heap.size ≤ b → pre.length < Nb → J b pre W0 → Has x (W0.alloc o) → YieldAt F (n - 1) P l (encs x) (W0.alloc o) fun e W' =>
      (e = .returned (.bool true) ∧ J b (pre ++ [x]) W' ∧ Keep (fun k => M b k ∨ k = W0.heap.size) (W0.alloc o) W') ∨ (e = .returned (.bool false) ∧ Jx (pre ++ [x]) W')) →
    CallsIn F n P gf (#[.func (.yield l) #[] #[]] ++ lb) W fun e W' => (∃ v, e = .returned v) ∧
      ((∃ b xs, W.heap.size ≤ b ∧ S xs ∧ J b xs W') ∨ (∃ pre, Sp pre ∧ Jx pre W'))

/-- how a round may be left -/
def roundEnd {α : Type} (B : Nat) (M : Nat → Nat → Prop) (I : Nat → List α → World → Prop) (Ix : Code → List α → World → Prop) (b N0 : Nat) (xs : List α) (W : World) : Exit → Act → World → Prop
  | .normal, _, W' => (∀ k, k = B ∨ k = B + 1 → W'.heap[k]? = W.heap[k]?) ∧ Keep (fun k => M b k ∨ k = N0) W W' ∧ I b xs W'
  | .ret, _, W' => (∀ k, k = B ∨ k = B + 1 → W'.heap[k]? = W.heap[k]?) ∧ Ix .ret xs W'
  | .exit id, _, W' => (∀ k, k = B ∨ k = B + 1 → W'.heap[k]? = W.heap[k]?) ∧ Ix (.exit id) xs W'
  | _, _, _ => False

theorem range_own {α : Type} {g : Operand} {ps : Array Tmp} {assign body : Code} {Q : Exit → Act → World → Prop} {a : Act} {w : World}
    (hro : F.round = none) (h1 : 1 ≤ n) {gf : Nat} {lb : Array Value} (hg : a.eval g = .func (.func gf) #[] lb) (hFg : F.fn gf) (eg : ∀ args w, (callFunc gf args).run P w = .ok (.enter gf args) w)
    {encs : α → Array Value} {Has : α → World → Prop} {M : Nat → Nat → Prop} {S Sp : List α → Prop} {Nb : Nat} (hseq : SeqOwn F (n - 1) P gf lb encs Has M S Sp Nb w) (hps : ∀ x, (encs x).size = ps.size)
    (hM : ∀ b, w.heap.size + 2 ≤ b → ¬ M b (w.heap.size + 1))
    (I : Nat → List α → World → Prop) (Ix : Code → List α → World → Prop) (Ax : Nat → List α → α → Nat → Act → World → Prop)
    (hI0 : ∀ b W', w.heap.size + 2 ≤ b → b < W'.heap.size → Below w.heap.size w W' → I b [] W')
    (hIt : ∀ b pre W1 W2, w.heap.size + 2 ≤ b → I b pre W1 → Turn (fun k => k = b ∨ k = w.heap.size + 1) W1 W2 → I b pre W2)
    (hXt : ∀ c pre W1 W2, Ix c pre W1 → Turn (fun k => k = w.heap.size + 1) W1 W2 → Ix c pre W2)
    (hAt : ∀ b pre x N0 a' W1 W2, Ax b pre x N0 a' W1 → Turn (fun k => k = w.heap.size + 1) W1 W2 → Ax b pre x N0 a' W2)
    (hassign : ∀ (l b : Nat) (pre : List α) (x : α) (W0 : World) (o : Obj) (K : Act → World → Prop), w.heap.size + 2 ≤ b → w.heap.size + 2 ≤ W0.heap.size → pre.length < Nb → (∃ r, (W0.alloc o).heap[w.heap.size + 1]? = some (.loop r)) → I b pre W0 → Has x (W0.alloc o) → (∀ a' W', Below (W0.alloc o).heap.size (W0.alloc o) W' → Ax b pre x W0.heap.size a' W' → K a' W') →
      assign.wpIn (F.inRound l) (n - 1 - 1) P (Exit.then K (fun _ _ _ => False)) { tmps := (ps.zip (encs x)).foldl (fun t (p, v) => t.setIfInBounds p v) a.tmps, defers := [] } (W0.alloc o))
    (hbody : ∀ (l b : Nat) (pre : List α) (x : α) (N0 : Nat) (a' : Act) (W : World), w.heap.size + 2 ≤ b → (∃ r, W.heap[w.heap.size + 1]? = some (.loop r)) → Ax b pre x N0 a' W → body.wpIn (F.inRound l) (n - 1 - 1) P (roundEnd w.heap.size M I Ix b N0 (pre ++ [x]) W) a' W)
    (hdone : ∀ (b : Nat) (xs : List α) (W : World), w.heap.size + 2 ≤ b → S xs → I b xs W → W.heap[w.heap.size]? = some (.deferred (some [])) → Q .normal { a with defers := { target := .collected w.heap.size, args := #[] } :: a.defers } W)
    (hstop : ∀ (c : Code) (pre : List α) (W : World), Sp pre → Ix c pre W → W.heap[w.heap.size]? = some (.deferred (some [])) → c.wpIn F n P Q { a with defers := { target := .collected w.heap.size, args := #[] } :: a.defers } W) :
    (Code.rangeFunc g ps assign body).wpIn F n P Q a w := by
  refine wpIn_rangeFunc fun fn hfn => ?_
  rw [hro]
  let rec0 : Loop := { state := .ready, pending := none, fn, tmps := a.tmps, params := ps, assign, body, defers := w.heap.size }
  obtain ⟨R, hR⟩ : ∃ R, R = rec0 := ⟨_, rfl⟩
  obtain ⟨W1, hW1⟩ : ∃ W1, (w.alloc (.deferred (some []))).alloc (.loop R) = W1 := ⟨_, rfl⟩
  have hsz : W1.heap.size = w.heap.size + 2 := by rw [← hW1]; simp
  have hL : W1.heap[w.heap.size + 1]? = some (.loop R) := by
    rw [← hW1]
    have := World.alloc_heap_new (w.alloc (.deferred (some []))) (.loop R)
    rwa [World.size_alloc] at this
  have hD : W1.heap[w.heap.size]? = some (.deferred (some [])) := by
    rw [← hW1]; exact (Below.heap_alloc _ _ _ (by simp)).trans (World.alloc_heap_new w _)
  have hbel : Below w.heap.size w W1 := by rw [← hW1]; exact ((Below.refl _ _).alloc (Nat.le_refl _) _).alloc (by simp) _
  refine ⟨w.heap.size + 1, [{ target := .collected w.heap.size, args := #[] }], W1, { target := .fn (.func gf) lb, args := #[.func (.yield (w.heap.size + 1)) #[] #[]] }, W1, gf,
    #[.func (.yield (w.heap.size + 1)) #[] #[]] ++ lb, W1, ?_, ?_, ?_, ?_, fun _ => h1, ?_⟩
  · rw [← hW1, hR]; exact run_enterLoop_outer _ _ _ _ _
  · simp only [resolve, hg]; simp [go_sem]
  · intro f' hf'; simp [Target.leads] at hf'; subst hf'; exact hFg
  · simp [invoke, go_sem, eg]
  have mine : ∀ b, w.heap.size + 2 ≤ b → ¬ (w.heap.size + 1 = b) ∧ ¬ (w.heap.size = b) := fun b hb => ⟨by omega, by omega⟩
  refine (hseq (w.heap.size + 1)
    (fun b pre W => I b pre W ∧ W.heap[w.heap.size + 1]? = some (.loop R) ∧ W.heap[w.heap.size]? = some (.deferred (some [])) ∧ w.heap.size + 1 < W.heap.size)
    (fun pre W => ∃ c, Ix c pre W ∧ W.heap[w.heap.size + 1]? = some (.loop { R with state := .done, pending := some c }) ∧ W.heap[w.heap.size]? = some (.deferred (some [])) ∧ w.heap.size + 1 < W.heap.size)
    W1 hbel ?start ?stab ?stabx ?yield).mono ?behind
  case start =>
    intro b W' hb hbl hW
    exact ⟨hI0 b W' (by omega) hbl (hbel.trans (hW.mono hbel.size)), (hW.block _ (by omega)).trans hL, (hW.block _ (by omega)).trans hD, by have := hW.size; omega⟩
  case stab =>
    rintro b pre A B hb ⟨hi, hl, hd, hz⟩ ht
    have hm := mine b (by omega)
    exact ⟨hIt b pre A B (by omega) hi (ht.mono fun k _ q => Or.inl q), (ht.block _ hz hm.1).trans hl, (ht.block _ (by omega) hm.2).trans hd, Nat.lt_of_lt_of_le hz ht.size⟩
  case stabx =>
    rintro pre A B ⟨c, hi, hl, hd, hz⟩ ht
    exact ⟨c, hXt c pre A B hi (ht.mono fun k _ q => q.elim), (ht.block _ hz id).trans hl, (ht.block _ (by omega) id).trans hd, Nat.lt_of_lt_of_le hz ht.size⟩
  case yield =>
    rintro b pre x W0 o hb hnb ⟨hi, hl0, hd0, hz0⟩ hx
    have hb2 : w.heap.size + 2 ≤ b := by omega
    have hba0 : Below W0.heap.size W0 (W0.alloc o) := (Below.refl _ _).alloc (Nat.le_refl _) _
    have hl := (hba0.block _ hz0).trans hl0
    have hd := (hba0.block _ (by omega)).trans hd0
    have hz : w.heap.size + 1 < (W0.alloc o).heap.size := Nat.lt_of_lt_of_le hz0 hba0.size
    have hM' : ¬ (M b (w.heap.size + 1) ∨ w.heap.size + 1 = W0.heap.size) := fun q => q.elim (hM b hb2) (fun e => by omega)
    have hy := run_yield (P := P) (args := encs x) hl (by rw [hR]; exact hps x)
    refine ⟨_, _, _, _, hy, ?_⟩
    rw [hR]
    refine roundIn_of_wpIn hfn (hassign _ b pre x W0 o _ hb2 (by omega) hnb ⟨_, hl⟩ hi hx ?_)
    intro a' Wa hba hax
    have hla := (hba.block _ hz).trans hl
    have hda := (hba.block _ (by omega)).trans hd
    have hza : w.heap.size + 1 < Wa.heap.size := Nat.lt_of_lt_of_le hz hba.size
    refine ⟨_, run_beginRound hla (by rw [hR]), ?_⟩
    obtain ⟨Wb, hWb⟩ : ∃ Wb, Wa.putObj (w.heap.size + 1) (.loop { R with state := .busy }) = Wb := ⟨_, rfl⟩
    have hlb : Wb.heap[w.heap.size + 1]? = some (.loop { R with state := .busy }) := by rw [← hWb]; exact World.putObj_heap_same hza
    have hdb : Wb.heap[w.heap.size]? = some (.deferred (some [])) := by rw [← hWb]; exact (World.putObj_heap_other (by omega)).trans hda
    have hzb : w.heap.size + 1 < Wb.heap.size := by rw [← hWb]; simpa using hza
    have hab := hAt b pre x W0.heap.size a' Wa Wb hax (by rw [← hWb]; exact turn_putObj _ _ _)
    have hkb : Keep (fun k => M b k ∨ k = W0.heap.size) (W0.alloc o) Wb := by
      rw [← hWb]
      exact Keep.trans ⟨hba.size, fun k _ hk => hba.block k hk⟩ (keep_putObj _ _ _ hM')
    rw [hWb]
    refine wpIn_mono (hbody _ b pre x W0.heap.size a' Wb hb2 ⟨_, hlb⟩ hab) ?_
    have fin : ∀ (jump : Option Code) (W3 : World), (∀ k, k = w.heap.size ∨ k = w.heap.size + 1 → W3.heap[k]? = Wb.heap[k]?) →
        ∃ W4, (Instr.endRound (w.heap.size + 1) jump).run P W3 = .ok (.bool jump.isNone) W4 ∧ W4 = W3.putObj (w.heap.size + 1) (.loop { R with state := if jump.isNone then .ready else .done, pending := jump }) ∧
          W4.heap[w.heap.size + 1]? = some (.loop { R with state := if jump.isNone then .ready else .done, pending := jump }) ∧ W4.heap[w.heap.size]? = some (.deferred (some [])) ∧ w.heap.size + 1 < W4.heap.size := by
      intro jump W3 h3
      have hl3 := (h3 (w.heap.size + 1) (Or.inr rfl)).trans hlb
      have hd3 := (h3 w.heap.size (Or.inl rfl)).trans hdb
      have hz3 : w.heap.size + 1 < W3.heap.size := (Array.getElem?_eq_some_iff.1 hl3).1
      exact ⟨_, run_endRound (P := P) jump hl3, rfl, World.putObj_heap_same hz3, (World.putObj_heap_other (by omega)).trans hd3, by simpa using hz3⟩
    rintro e a3 W3 hp
    cases e with
    | normal =>
      obtain ⟨h3, hk3, hi3⟩ := hp
      obtain ⟨W4, hr, hW4, hl4, hd4, hz4⟩ := fin none W3 h3
      have hR2 : ({ R with state := if (Option.none : Option Code).isNone then .ready else .done, pending := none } : Loop) = R := by rw [hR]; rfl
      rw [hR2, hR] at hl4
      refine ⟨_, _, hr, .inl ⟨rfl, ⟨?_, hl4, hd4, hz4⟩, ?_⟩⟩
      · rw [hW4]; exact hIt b _ W3 _ hb2 hi3 ((turn_putObj _ _ _).mono fun k _ q => Or.inr q)
      · rw [hW4]; exact (hkb.trans hk3).trans (keep_putObj _ _ _ hM')
    | ret =>
      obtain ⟨h3, hi3⟩ := hp
      obtain ⟨W4, hr, hW4, hl4, hd4, hz4⟩ := fin (some .ret) W3 h3
      exact ⟨_, _, hr, .inr ⟨rfl, .ret, by rw [hW4]; exact hXt _ _ _ _ hi3 (turn_putObj _ _ _), by rw [hR] at hl4; exact hl4, hd4, hz4⟩⟩
    | exit id =>
      obtain ⟨h3, hi3⟩ := hp
      obtain ⟨W4, hr, hW4, hl4, hd4, hz4⟩ := fin (some (.exit id)) W3 h3
      exact ⟨_, _, hr, .inr ⟨rfl, .exit id, by rw [hW4]; exact hXt _ _ _ _ hi3 (turn_putObj _ _ _), by rw [hR] at hl4; exact hl4, hd4, hz4⟩⟩
    | goto t => exact hp.elim
    | panic ch => exact hp.elim
    | outgrown => exact hp.elim
  case behind =>
    rintro e W2 ⟨⟨v, rfl⟩, (⟨b, xs, hb, hS, hi, hl, hd, hz⟩ | ⟨pre, hSp, c, hi, hl, hd, hz⟩)⟩
    · refine ⟨R.pending, _, run_endLoop (P := P) hl (by rw [hR]; simp [rec0]), ?_⟩
      have hp : R.pending = none := by rw [hR]
      rw [hp]
      exact hdone b xs _ (by omega) hS (hIt b _ W2 _ (by omega) hi ((turn_putObj _ _ _).mono fun k _ q => Or.inr q)) ((World.putObj_heap_other (by omega)).trans hd)
    · refine ⟨some c, _, run_endLoop (P := P) hl (by simp), ?_⟩
      exact hstop c pre _ hSp (hXt _ _ _ _ hi (turn_putObj _ _ _)) ((World.putObj_heap_other (by omega)).trans hd)
end
end Go.Proofs.YtppcofopnelgjaaGreatDoor
set_option linter.unusedVariables false
set_option linter.unusedSimpArgs false
namespace Go.Proofs.YtppcofopnelgjaaGreatDoor
open Go.RowKit
/-- what the iterator tells: a token, or a fault that lies at a block -/
inductive El where
  | tok (k : Int) (t : ByteArray) (l c : Int)
  | flt (fb : Nat) (code l c : Int) (word : ByteArray)
def El.encs : El → Array Value
  | .tok k t l c => #[tokV k t l c, .nilIface]
  | .flt fb code l c word => #[.agg #[.int .i8 0, .string ⟨#[]⟩, .int .i64 0, .int .i64 0], .iface 72 (.pointer (some ⟨fb, 0, none⟩))]
def El.Has (B : Nat) : El → World → Prop
  | .tok _ _ _ _, _ => True
  | .flt fb code l c word, W => Flt fb code l c word W ∧ B ≤ fb
/-- it is what stands at a place -/
def El.At (T : Tx) (i : Nat) : El → Prop
  | .tok k t l c => ∃ j, T.tokR i = .tok k t l c j
  | .flt fb code l c word => T.tokR i = .flt code l c word
/-- and the last thing -/
def El.Last (T : Tx) (i : Nat) : El → Prop
  | .tok k t l c => k = 5 ∧ ∃ j, T.tokR i = .tok k t l c j
  | .flt fb code l c word => T.tokR i = .flt code l c word
/-- tokens, none of them the end, from one place to another -/
inductive Walk (T : Tx) (i : Nat) : List El → Nat → Prop where
  | nil : Walk T i [] i
  | snoc {pre : List El} {j j' : Nat} {k : Int} {t : ByteArray} {l c : Int} : Walk T i pre j → T.tokR j = .tok k t l c j' → k ≠ 5 → Walk T i (pre ++ [.tok k t l c]) j'
def Tx.All (T : Tx) (xs : List El) : Prop := ∃ pre j x, xs = pre ++ [x] ∧ Walk T 0 pre j ∧ x.Last T j
def Tx.Part (T : Tx) (xs : List El) : Prop := ∃ pre j x, xs = pre ++ [x] ∧ Walk T 0 pre j ∧ x.At T j
/-- the iterator's blocks -/
def Tx.M (T : Tx) (b k : Nat) : Prop := k = b ∨ k = T.sb ∨ (0 < T.N ∧ T.ro = some ⟨k, 0, none⟩)
theorem Keep.mono {M M' : Nat → Prop} {w w' : World} (h : Keep M w w') (hM : ∀ k, M' k → M k) : Keep M' w w' := ⟨h.size, fun k hk hl => h.same k (hM k hk) hl⟩
theorem Scn.keep {T : Tx} {b i : Nat} {w w' : World} (h : Scn T b i w) (k : Keep (T.M b) w w') : Scn T b i w' := by
  obtain ⟨ok, le, lt, c0, c1, c2, c3, c4, c5, f, inn⟩ := h
  have hb := k.same b (Or.inl rfl) lt
  refine ⟨ok, le, Nat.lt_of_lt_of_le lt k.size, (World.cell?_of_block hb).trans c0, (World.cell?_of_block hb).trans c1, (World.cell?_of_block hb).trans c2, (World.cell?_of_block hb).trans c3, (World.cell?_of_block hb).trans c4, (World.cell?_of_block hb).trans c5, fun i hi => (World.frozen?_of_block hb).trans (f i hi), ⟨fun j hj => ?_, inn.start.1, Nat.lt_of_lt_of_le inn.start.2.1 k.size, fun j hj => ?_⟩⟩
  · obtain ⟨rb, e, q, hl, hc⟩ := inn.rune j hj
    exact ⟨rb, e, q, Nat.lt_of_lt_of_le hl k.size, (World.cell?_of_block (k.same rb (Or.inr (Or.inr ⟨by omega, e⟩)) hl)).trans hc⟩
  · exact (World.cell?_of_block (k.same T.sb (Or.inr (Or.inl rfl)) inn.start.2.1)).trans (inn.start.2.2 j hj)

theorem numd_le {T : Tx} (ok : T.Ok) {i : Nat} (hi : i ≤ T.N) {t : ByteArray} {j : Nat} (h : T.numd i = some (t, j)) : j ≤ T.N := by
  unfold Tx.numd at h
  split at h
  · cases h
  rename_i h1
  split at h
  · cases h
  rename_i h2
  have hlt : i < T.N := lt_of_r ok hi (by omega)
  have hs := ok.skp_le tells_hex (i + 1) (by omega)
  have hl2 : T.skp L.isHex (i + 1) < T.N := lt_of_r ok hs.2 (by omega)
  split at h
  · simp only [Option.some.injEq, Prod.mk.injEq] at h
    omega
  · cases h
theorem esc_le {T : Tx} (ok : T.Ok) {i : Nat} (hi : i < T.N) {t : ByteArray} {j : Nat} (h : T.esc i = some (t, j)) : j ≤ T.N := by
  unfold Tx.esc at h
  split at h
  · rename_i hr
    have := lt_of_r ok (i := i + 1) hi (by omega)
    simp only [Option.some.injEq, Prod.mk.injEq] at h
    omega
  · split at h
    · rename_i hr
      have := lt_of_r ok (i := i + 1) hi (by omega)
      exact numd_le ok (by omega) h
    · cases h
theorem qloop_adv {T : Tx} (ok : T.Ok) (o : Nat) (f : Nat) : ∀ i acc k t l c j, i ≤ T.N → T.qloop o f i acc = .tok k t l c j → i < j := by
  induction f with
  | zero => intro i acc k t l c j hi h; cases h
  | succ f ih =>
    intro i acc k t l c j hi h
    unfold Tx.qloop at h
    split at h
    · cases h
    rename_i h1
    have hlt : i < T.N := lt_of_r ok hi (by omega)
    split at h
    · split at h
      · cases h; omega
      · cases h
    · split at h
      · cases he : T.esc i with
        | none => rw [he] at h; cases h
        | some tj =>
          rw [he] at h
          have h2 := (esc_size ok hlt (t := tj.1) (j := tj.2) he).2
          have := ih _ _ _ _ _ _ _ (esc_le ok hlt (t := tj.1) (j := tj.2) he) h; omega
      · have := ih _ _ _ _ _ _ _ hlt h; omega
theorem qloop_le {T : Tx} (ok : T.Ok) (o : Nat) (f : Nat) : ∀ i acc k t l c j, i ≤ T.N → T.qloop o f i acc = .tok k t l c j → j ≤ T.N := by
  induction f with
  | zero => intro i acc k t l c j hi h; cases h
  | succ f ih =>
    intro i acc k t l c j hi h
    unfold Tx.qloop at h
    split at h
    · cases h
    rename_i h1
    have hlt : i < T.N := lt_of_r ok hi (by omega)
    split at h
    · split at h
      · cases h; omega
      · cases h
    · split at h
      · cases he : T.esc i with
        | none => rw [he] at h; cases h
        | some tj =>
          rw [he] at h
          exact ih _ _ _ _ _ _ _ (esc_le ok hlt (t := tj.1) (j := tj.2) he) h
      · exact ih _ _ _ _ _ _ _ hlt h
theorem tok_adv {T : Tx} (ok : T.Ok) {i : Nat} (hi : i ≤ T.N) {k : Int} {t : ByteArray} {l c : Int} {j : Nat} (h : T.tokR i = .tok k t l c j) (hk : k ≠ 5) : i < j := by
  have hg := gap_le ok i hi
  unfold Tx.tokR Tx.tokAt at h
  split at h
  · cases h; exact absurd rfl hk
  rename_i h1
  have hlt := lt_of_r ok hg.2 h1
  split at h
  · rename_i h2
    unfold Tx.wordR at h
    split at h
    · cases h
    · simp only [Res.tok.injEq] at h
      have := skp_on ok tells_word _ hlt (by unfold L.inWord; rw [h2]; rfl)
      omega
  split at h
  · rename_i h2
    unfold Tx.numberR at h
    split at h
    · simp only [Res.tok.injEq] at h
      have := skp_on ok tells_run _ hlt (by unfold L.inRun L.inWord; rw [h2]; simp)
      omega
    · cases h
  split at h
  · simp only [Res.tok.injEq] at h; omega
  split at h
  · unfold Tx.quotedR at h
    have := qloop_adv ok _ _ _ _ _ _ _ _ _ hlt h
    omega
  · cases h

theorem tok_le {T : Tx} (ok : T.Ok) {i : Nat} (hi : i ≤ T.N) {k : Int} {t : ByteArray} {l c : Int} {j : Nat} (h : T.tokR i = .tok k t l c j) : j ≤ T.N := by
  have hg := gap_le ok i hi
  unfold Tx.tokR Tx.tokAt at h
  split at h
  · simp only [Res.tok.injEq] at h; omega
  rename_i h1
  have hlt := lt_of_r ok hg.2 h1
  split at h
  · unfold Tx.wordR at h
    split at h
    · cases h
    · simp only [Res.tok.injEq] at h
      have := ok.skp_le tells_word _ hg.2
      omega
  split at h
  · unfold Tx.numberR at h
    split at h
    · simp only [Res.tok.injEq] at h
      have := ok.skp_le tells_run _ hg.2
      omega
    · cases h
  split at h
  · simp only [Res.tok.injEq] at h; omega
  split at h
  · exact qloop_le ok _ _ _ _ _ _ _ _ _ hlt h
  · cases h
theorem walk_len {T : Tx} (ok : T.Ok) {pre : List El} {j : Nat} (h : Walk T 0 pre j) : pre.length ≤ j ∧ j ≤ T.N := by
  induction h with
  | nil => exact ⟨Nat.le_refl _, Nat.zero_le _⟩
  | snoc h1 h2 h3 ih =>
    have := tok_adv ok ih.2 h2 h3
    have := tok_le ok ih.2 h2
    rw [List.length_append]; simp; omega
theorem part_of_last {T : Tx} {j : Nat} {x : El} (h : x.Last T j) : x.At T j := by
  cases x with
  | tok k t l c => exact h.2
  | flt fb code l c word => exact h

theorem six_cells {g : Nat} {w : World} {a b c d e f : Value} {t : TypeId} (h : w.heap[g]? = some (.cells #[a, b, c, d, e, f] t (0, 0))) :
    w.cell? ⟨g, 0, none⟩ = some a ∧ w.cell? ⟨g, 1, none⟩ = some b ∧ w.cell? ⟨g, 2, none⟩ = some c ∧ w.cell? ⟨g, 3, none⟩ = some d ∧ w.cell? ⟨g, 4, none⟩ = some e ∧ w.cell? ⟨g, 5, none⟩ = some f ∧ w.frozen? ⟨g, 0, none⟩ = false ∧ w.frozen? ⟨g, 1, none⟩ = false ∧ w.frozen? ⟨g, 2, none⟩ = false ∧ w.frozen? ⟨g, 3, none⟩ = false ∧ w.frozen? ⟨g, 4, none⟩ = false ∧ w.frozen? ⟨g, 5, none⟩ = false := by
  refine ⟨?_, ?_, ?_, ?_, ?_, ?_, ?_, ?_, ?_, ?_, ?_, ?_⟩ <;> simp [World.cell?, World.frozen?, h]
/-- a scanner at a text's beginning -/
theorem scn_start {T : Tx} (ok : T.Ok) {W Wn : World} (gin : T.In (fun k => W.heap.size ≤ k) W) (hb : Below W.heap.size W Wn) {b : Nat} (hbW : W.heap.size ≤ b)
    (h : Wn.heap[b]? = some (.cells #[.string T.s, .slice T.ro T.N T.rc, .slice (some ⟨T.sb, 0, none⟩) (T.N + 1) T.sc, .int .i64 0, .int .i64 1, .int .i64 1] 138 (0, 0))) : Scn T b 0 Wn := by
  obtain ⟨p0, p1, p2, p3, p4, p5, r0, r1, r2, r3, r4, r5⟩ := six_cells h
  have hz := ok.good.zero
  refine ⟨ok, Nat.zero_le _, (Array.getElem?_eq_some_iff.1 h).1, p0, p1, p2, p3, ?_, ?_, ?_, ⟨fun j hj => ?_, ?_, Nat.lt_of_lt_of_le gin.start.2.1 hb.size, fun j hj => ?_⟩⟩
  · rw [p4, show (T.g 0).l = 1 from hz.2.1]
  · rw [p5, show (T.g 0).c = 1 from hz.2.2]
  · intro k hk
    match k, hk with
    | 0, _ => exact r0
    | 1, _ => exact r1
    | 2, _ => exact r2
    | 3, _ => exact r3
    | 4, _ => exact r4
    | 5, _ => exact r5
  · obtain ⟨rb, e, q, hl, hc⟩ := gin.rune j hj
    exact ⟨rb, e, by omega, Nat.lt_of_lt_of_le hl hb.size, (hb.cell (p := ⟨rb, j, none⟩) hl).trans hc⟩
  · have := gin.start.2.1; omega
  · exact (hb.cell (p := ⟨T.sb, j, none⟩) gin.start.2.1).trans (gin.start.2.2 j hj)
theorem set6_heap (w : World) (g : Nat) (a b c d e f a' b' c' d' e' f' : Value) (t : TypeId) (h : w.heap[g]? = some (.cells #[a, b, c, d, e, f] t (0, 0))) :
    ((((((w.setCell ⟨g, 0, none⟩ a').setCell ⟨g, 1, none⟩ b').setCell ⟨g, 2, none⟩ c').setCell ⟨g, 3, none⟩ d').setCell ⟨g, 4, none⟩ e').setCell ⟨g, 5, none⟩ f').heap[g]? = some (.cells #[a', b', c', d', e', f'] t (0, 0)) := by
  have s0 := heap_setCell_same w g 0 _ t a' h
  have s1 := heap_setCell_same _ g 1 _ t b' s0
  have s2 := heap_setCell_same _ g 2 _ t c' s1
  have s3 := heap_setCell_same _ g 3 _ t d' s2
  have s4 := heap_setCell_same _ g 4 _ t e' s3
  have s5 := heap_setCell_same _ g 5 _ t f' s4
  simpa using s5
set_option maxHeartbeats 2000000 in
set_option maxRecDepth 100000 in
/-- THE ITERATOR THAT Each HANDS BACK -/
theorem each1_seq (n : Nat) (hn : 1 ≤ n) (T : Tx) (ok : T.Ok) (hN : 0 < T.N ∨ T.ro = none) (cb : Nat) (w : World) (inn : T.In (fun k => w.heap.size ≤ k) w)
    (h0 : w.cell? ⟨cb, 0, none⟩ = some (.string T.s)) (h1 : w.cell? ⟨cb, 1, none⟩ = some T.rv) (h2 : w.cell? ⟨cb, 2, none⟩ = some T.sv) :
    SeqOwn Fence.wide n Tryz.prog 67 #[.pointer (some ⟨cb, 0, none⟩)] El.encs (El.Has w.heap.size) T.M T.All T.Part (T.N + 1) w := by
  intro l J Jx W hW hJ0 hJt hXt hY
  have g0 := below_keeps hW h0
  have g1 := below_keeps hW h1
  have g2 := below_keeps hW h2
  have gin : T.In (fun k => W.heap.size ≤ k) W := by
    refine Tx.In.mono (inn.turn (w' := W) ?_) (fun k hk q => ?_)
    · exact ⟨hW.os, hW.tape, hW.output, hW.size, fun k hk _ => hW.block k hk⟩
    · exact absurd q (by omega)
  have H := hide' (And.intro ok (And.intro hN gin))
  have hwW := hW.size
  have HJ := hide' (And.intro hJ0 (And.intro hJt (And.intro hXt hY)))
  clear h0 h1 h2 inn hW ok hN gin hJ0 hJt hXt hY
  refine callsIn_of_wp Tryz.func67 rfl trivial ?_ rfl
  refine wpIn_wide.2 ?_
  simp only [Tryz.ntmps67, List.size_toArray, List.length_cons, List.length_nil, Nat.reduceAdd, Nat.reduceSub, Array.replicate_succ, Array.replicate_zero, List.push_toArray, List.append_toArray, List.nil_append, List.cons_append]
  go_wp2
  have n0 := World.new_ne W ⟨cb, 0, none⟩ g0
  unfold Tx.rv at g1
  unfold Tx.sv at g2
  go_region_held3 (fun w' => w'.cell? ⟨cb, 0, none⟩ = some (.string T.s) ∧ w'.cell? ⟨cb, 1, none⟩ = some (.slice T.ro T.N T.rc) ∧ w'.cell? ⟨cb, 2, none⟩ = some (.slice (some ⟨T.sb, 0, none⟩) (T.N + 1) T.sc)) (first | go_keep | (exact ⟨v0, v1, v2⟩) | (exact ⟨(World.cell?_of_block (Below.heap_alloc _ _ _ mlt)).trans v0, (World.cell?_of_block (Below.heap_alloc _ _ _ mlt)).trans v1, (World.cell?_of_block (Below.heap_alloc _ _ _ mlt)).trans v2⟩))
    (first | (go_at_call 68; refine (first_any _).mono ?_; rintro e W2 ⟨rfl, bw⟩; obtain ⟨k1, k2, k3⟩ := ‹_ ∧ _ ∧ _›; have v0 := below_keeps bw k1; have v1 := below_keeps bw k2; have v2 := below_keeps bw k3; have mlt : cb < W2.heap.size := lt_of_cell v0; have m0 : W2.heap.size ≠ cb := (by have q1 := bw.size; have q2 := lt_of_cell g0; simp at q1 q2; omega); (try (have hblk : W2.heap[W.heap.size]? = some (.cells #[.string ⟨#[]⟩, .slice none 0 0, .slice none 0 0, .int .i64 0, .int .i64 0, .int .i64 0] 138 (0, 0)) := (bw.block W.heap.size (by show W.heap.size < (W.alloc _).heap.size; simp)).trans (heap_alloc_new W _); obtain ⟨p0, p1, p2, p3, p4, p5, r0, r1, r2, r3, r4, r5⟩ := six_cells hblk))))
  · have bw' : Below W.heap.size W W2 := ⟨bw.os, bw.tape, bw.output, bw.size, bw.block⟩
    have A : Hid (Scn T W2.heap.size 0 (W2.alloc (.cells #[.string T.s, .slice T.ro T.N T.rc, .slice (some ⟨T.sb, 0, none⟩) (T.N + 1) T.sc, .int .i64 0, .int .i64 1, .int .i64 1] 138)) ∧ Below W.heap.size W (W2.alloc (.cells #[.string T.s, .slice T.ro T.N T.rc, .slice (some ⟨T.sb, 0, none⟩) (T.N + 1) T.sc, .int .i64 0, .int .i64 1, .int .i64 1] 138)) ∧ W.heap.size ≤ W2.heap.size) := by
      have hb := bw'.alloc bw'.size (.cells #[.string T.s, .slice T.ro T.N T.rc, .slice (some ⟨T.sb, 0, none⟩) (T.N + 1) T.sc, .int .i64 0, .int .i64 1, .int .i64 1] 138)
      exact ⟨scn_start H.out.1 H.out.2.2 hb bw'.size (heap_alloc_new _ _), hb, bw'.size⟩
    obtain ⟨Wn, hWn⟩ : ∃ Wn, W2.alloc (.cells #[.string T.s, .slice T.ro T.N T.rc, .slice (some ⟨T.sb, 0, none⟩) (T.N + 1) T.sc, .int .i64 0, .int .i64 1, .int .i64 1] 138) = Wn := ⟨_, rfl⟩
    obtain ⟨b, hb⟩ : ∃ b, W2.heap.size = b := ⟨_, rfl⟩
    rw [hWn, hb] at A
    rw [hWn, hb]
    clear hWn hb bw bw' k1 k2 k3 v0 v1 v2 mlt m0 n0
    try rename_i hh
    try clear hh
    go_wp2
    go_loopw [] (fun wx => ∃ j pre, Scn T b j wx ∧ J b pre wx ∧ Walk T 0 pre j) (fun wx => T.N + 1 - nextOf b wx)
    case atStart => exact ⟨0, [], A.out.1, HJ.out.1 b Wn A.out.2.2 A.out.1.lt A.out.2.1, Walk.nil⟩
    case round =>
      obtain ⟨j, pre, hs, hj, hw⟩ := hrel
      have hne := nextOf_of hs
      have hle := hs.le
      have hblt := hs.lt
      have hbW := A.out.2.2
      have HTk := hide' (token_any hs H.out.2.1)
      have HS := hide' (And.intro hj hw)
      clear hs hj hw
      cases htk : T.tokR j with
      | tok k t lx cx j' =>
        rw [htk] at HTk
        refine (wpIn_wide (n := n)).1 ?_
        gi_wp2
        refine ⟨trivial, (callsIn_wide.2 HTk.out).mono ?_⟩
        rintro e w2 ⟨v, rfl, ⟨rfl, s2⟩, t2⟩
        unfold tokV
        have S2 := hide' (And.intro s2 t2)
        have ba : Below w2.heap.size w2 (w2.alloc (.cells #[.int .i8 k, .string t, .int .i64 lx, .int .i64 cx] 44)) := (Below.refl _ _).alloc (Nat.le_refl _) _
        have hJ2 : J b pre w2 := HJ.out.2.1 b pre wr _ A.out.2.2 HS.out.1 t2
        obtain ⟨fn, tmps, assign, body, hy, hR⟩ := HJ.out.2.2.2 b pre (.tok k t lx cx) w2 (.cells #[.int .i8 k, .string t, .int .i64 lx, .int .i64 cx] 44) A.out.2.2 (by have := walk_len H.out.1 HS.out.2; omega) hJ2 trivial
        unfold El.encs tokV at hy
        have S3 := hide' (s2.below ba)
        have hnew := heap_alloc_new w2 (.cells #[.int .i8 k, .string t, .int .i64 lx, .int .i64 cx] 44)
        have Hnew := hide' hnew
        clear s2 t2 hJ2 ba hnew
        gi_wp2
        refine hR.mono ?_
        rintro e W3 (⟨rfl, hJ3, hk3⟩ | ⟨rfl, hJx3⟩)
        · have hbx := (hk3.same w2.heap.size (Or.inr rfl) (by simp)).trans Hnew.out
          have x0 : W3.cell? ⟨w2.heap.size, 0, none⟩ = some (.int .i8 k) := by simp [World.cell?, hbx]
          have s3 := S3.out.keep (hk3.mono fun k hk => Or.inl hk)
          by_cases h5 : k = 5
          · have e5 : (k == 5) = true := by simpa using h5
            subst h5
            gi_wp2
            refine bodyPost_ret (results_none rfl _ _ _) rfl ?_
            exact ⟨⟨_, rfl⟩, .inl ⟨b, _, A.out.2.2, ⟨pre, j, .tok 5 t lx cx, rfl, HS.out.2, (⟨rfl, _, htk⟩ : El.Last T j (.tok 5 t lx cx))⟩, hJ3⟩⟩
          · have e5 : (k == 5) = false := by simpa using h5
            have hadv := tok_adv H.out.1 hle htk h5
            have hle' := s3.le
            gi_wp2
            refine ⟨⟨j', _, s3, hJ3, Walk.snoc HS.out.2 htk h5⟩, ?_⟩
            rw [nextOf_of s3, hne]; omega
        · gi_wp2
          refine bodyPost_ret (results_none rfl _ _ _) rfl ?_
          exact ⟨⟨_, rfl⟩, .inr ⟨_, ⟨pre, j, .tok k t lx cx, rfl, HS.out.2, (⟨_, htk⟩ : El.At T j (.tok k t lx cx))⟩, hJx3⟩⟩
      | flt code lx cx word =>
        rw [htk] at HTk
        refine (wpIn_wide (n := n)).1 ?_
        gi_wp2
        refine ⟨trivial, (callsIn_wide.2 HTk.out).mono ?_⟩
        rintro e w2 ⟨v, rfl, ⟨fb, rfl, hfb, hflt⟩, t2⟩
        unfold tokV
        have ba : Below w2.heap.size w2 (w2.alloc (.cells #[.int .i8 0, .string ByteArray.empty, .int .i64 0, .int .i64 0] 44)) := (Below.refl _ _).alloc (Nat.le_refl _) _
        have hJ2 : J b pre w2 := HJ.out.2.1 b pre wr _ A.out.2.2 HS.out.1 t2
        have hflt2 : Flt fb code lx cx word (w2.alloc (.cells #[.int .i8 0, .string ByteArray.empty, .int .i64 0, .int .i64 0] 44)) := (ba.block fb ((Array.getElem?_eq_some_iff.1 hflt).1)).trans hflt
        obtain ⟨fn, tmps, assign, body, hy, hR⟩ := HJ.out.2.2.2 b pre (.flt fb code lx cx word) w2 (.cells #[.int .i8 0, .string ByteArray.empty, .int .i64 0, .int .i64 0] 44) A.out.2.2 (by have := walk_len H.out.1 HS.out.2; omega) hJ2 ⟨hflt2, by omega⟩
        unfold El.encs at hy
        clear hflt hflt2 t2 hJ2 ba
        gi_wp2
        refine hR.mono ?_
        rintro e W3 (⟨rfl, hJ3, hk3⟩ | ⟨rfl, hJx3⟩)
        · gi_wp2
          refine bodyPost_ret (results_none rfl _ _ _) rfl ?_
          exact ⟨⟨_, rfl⟩, .inl ⟨b, _, A.out.2.2, ⟨pre, j, .flt fb code lx cx word, rfl, HS.out.2, (htk : El.Last T j (.flt fb code lx cx word))⟩, hJ3⟩⟩
        · gi_wp2
          refine bodyPost_ret (results_none rfl _ _ _) rfl ?_
          exact ⟨⟨_, rfl⟩, .inr ⟨_, ⟨pre, j, .flt fb code lx cx word, rfl, HS.out.2, (htk : El.At T j (.flt fb code lx cx word))⟩, hJx3⟩⟩
  · have hz0 : Below W.heap.size W (W.alloc (.cells #[.string ⟨#[]⟩, .slice none 0 0, .slice none 0 0, .int .i64 0, .int .i64 0, .int .i64 0] 138)).drew := ((Below.refl _ _).alloc (Nat.le_refl _) _).drew
    have bw' : Below W.heap.size W W2 := hz0.trans (bw.mono hz0.size)
    have A : Hid (Scn T W.heap.size 0 ((((((W2.setCell ⟨W.heap.size, 0, none⟩ (.string T.s)).setCell ⟨W.heap.size, 1, none⟩ (.slice T.ro T.N T.rc)).setCell ⟨W.heap.size, 2, none⟩ (.slice (some ⟨T.sb, 0, none⟩) (T.N + 1) T.sc)).setCell ⟨W.heap.size, 3, none⟩ (.int .i64 0)).setCell ⟨W.heap.size, 4, none⟩ (.int .i64 1)).setCell ⟨W.heap.size, 5, none⟩ (.int .i64 1)) ∧ Below W.heap.size W ((((((W2.setCell ⟨W.heap.size, 0, none⟩ (.string T.s)).setCell ⟨W.heap.size, 1, none⟩ (.slice T.ro T.N T.rc)).setCell ⟨W.heap.size, 2, none⟩ (.slice (some ⟨T.sb, 0, none⟩) (T.N + 1) T.sc)).setCell ⟨W.heap.size, 3, none⟩ (.int .i64 0)).setCell ⟨W.heap.size, 4, none⟩ (.int .i64 1)).setCell ⟨W.heap.size, 5, none⟩ (.int .i64 1)) ∧ W.heap.size ≤ W.heap.size) := by
      have hb : Below W.heap.size W ((((((W2.setCell ⟨W.heap.size, 0, none⟩ (.string T.s)).setCell ⟨W.heap.size, 1, none⟩ (.slice T.ro T.N T.rc)).setCell ⟨W.heap.size, 2, none⟩ (.slice (some ⟨T.sb, 0, none⟩) (T.N + 1) T.sc)).setCell ⟨W.heap.size, 3, none⟩ (.int .i64 0)).setCell ⟨W.heap.size, 4, none⟩ (.int .i64 1)).setCell ⟨W.heap.size, 5, none⟩ (.int .i64 1)) := (((((bw'.setCell (p := ⟨W.heap.size, 0, none⟩) (Nat.le_refl _) _).setCell (p := ⟨W.heap.size, 1, none⟩) (Nat.le_refl _) _).setCell (p := ⟨W.heap.size, 2, none⟩) (Nat.le_refl _) _).setCell (p := ⟨W.heap.size, 3, none⟩) (Nat.le_refl _) _).setCell (p := ⟨W.heap.size, 4, none⟩) (Nat.le_refl _) _).setCell (p := ⟨W.heap.size, 5, none⟩) (Nat.le_refl _) _
      exact ⟨scn_start H.out.1 H.out.2.2 hb (Nat.le_refl _) (set6_heap _ _ _ _ _ _ _ _ _ _ _ _ _ _ _ hblk), hb, Nat.le_refl _⟩
    obtain ⟨Wn, hWn⟩ : ∃ Wn, ((((((W2.setCell ⟨W.heap.size, 0, none⟩ (.string T.s)).setCell ⟨W.heap.size, 1, none⟩ (.slice T.ro T.N T.rc)).setCell ⟨W.heap.size, 2, none⟩ (.slice (some ⟨T.sb, 0, none⟩) (T.N + 1) T.sc)).setCell ⟨W.heap.size, 3, none⟩ (.int .i64 0)).setCell ⟨W.heap.size, 4, none⟩ (.int .i64 1)).setCell ⟨W.heap.size, 5, none⟩ (.int .i64 1)) = Wn := ⟨_, rfl⟩
    obtain ⟨b, hb⟩ : ∃ b, W.heap.size = b := ⟨_, rfl⟩
    rw [hWn] at A
    rw [hWn]
    have A' : Hid (Scn T b 0 Wn ∧ Below W.heap.size W Wn ∧ W.heap.size ≤ b) := (by rw [← hb]; exact A.out)
    rw [show (Value.pointer (some (⟨W.heap.size, 0, none⟩ : Addr))) = .pointer (some ⟨b, 0, none⟩) by rw [hb]]
    replace A := A'
    clear A' hWn hb bw bw' hz0 k1 k2 k3 v0 v1 v2 mlt m0 n0 hblk p0 p1 p2 p3 p4 p5 r0 r1 r2 r3 r4 r5
    try rename_i hh
    try clear hh
    go_wp2
    go_loopw [] (fun wx => ∃ j pre, Scn T b j wx ∧ J b pre wx ∧ Walk T 0 pre j) (fun wx => T.N + 1 - nextOf b wx)
    case atStart => exact ⟨0, [], A.out.1, HJ.out.1 b Wn A.out.2.2 A.out.1.lt A.out.2.1, Walk.nil⟩
    case round =>
      obtain ⟨j, pre, hs, hj, hw⟩ := hrel
      have hne := nextOf_of hs
      have hle := hs.le
      have hblt := hs.lt
      have hbW := A.out.2.2
      have HTk := hide' (token_any hs H.out.2.1)
      have HS := hide' (And.intro hj hw)
      clear hs hj hw
      cases htk : T.tokR j with
      | tok k t lx cx j' =>
        rw [htk] at HTk
        refine (wpIn_wide (n := n)).1 ?_
        gi_wp2
        refine ⟨trivial, (callsIn_wide.2 HTk.out).mono ?_⟩
        rintro e w2 ⟨v, rfl, ⟨rfl, s2⟩, t2⟩
        unfold tokV
        have S2 := hide' (And.intro s2 t2)
        have ba : Below w2.heap.size w2 (w2.alloc (.cells #[.int .i8 k, .string t, .int .i64 lx, .int .i64 cx] 44)) := (Below.refl _ _).alloc (Nat.le_refl _) _
        have hJ2 : J b pre w2 := HJ.out.2.1 b pre wr _ A.out.2.2 HS.out.1 t2
        obtain ⟨fn, tmps, assign, body, hy, hR⟩ := HJ.out.2.2.2 b pre (.tok k t lx cx) w2 (.cells #[.int .i8 k, .string t, .int .i64 lx, .int .i64 cx] 44) A.out.2.2 (by have := walk_len H.out.1 HS.out.2; omega) hJ2 trivial
        unfold El.encs tokV at hy
        have S3 := hide' (s2.below ba)
        have hnew := heap_alloc_new w2 (.cells #[.int .i8 k, .string t, .int .i64 lx, .int .i64 cx] 44)
        have Hnew := hide' hnew
        clear s2 t2 hJ2 ba hnew
        gi_wp2
        refine hR.mono ?_
        rintro e W3 (⟨rfl, hJ3, hk3⟩ | ⟨rfl, hJx3⟩)
        · have hbx := (hk3.same w2.heap.size (Or.inr rfl) (by simp)).trans Hnew.out
          have x0 : W3.cell? ⟨w2.heap.size, 0, none⟩ = some (.int .i8 k) := by simp [World.cell?, hbx]
          have s3 := S3.out.keep (hk3.mono fun k hk => Or.inl hk)
          by_cases h5 : k = 5
          · have e5 : (k == 5) = true := by simpa using h5
            subst h5
            gi_wp2
            refine bodyPost_ret (results_none rfl _ _ _) rfl ?_
            exact ⟨⟨_, rfl⟩, .inl ⟨b, _, A.out.2.2, ⟨pre, j, .tok 5 t lx cx, rfl, HS.out.2, (⟨rfl, _, htk⟩ : El.Last T j (.tok 5 t lx cx))⟩, hJ3⟩⟩
          · have e5 : (k == 5) = false := by simpa using h5
            have hadv := tok_adv H.out.1 hle htk h5
            have hle' := s3.le
            gi_wp2
            refine ⟨⟨j', _, s3, hJ3, Walk.snoc HS.out.2 htk h5⟩, ?_⟩
            rw [nextOf_of s3, hne]; omega
        · gi_wp2
          refine bodyPost_ret (results_none rfl _ _ _) rfl ?_
          exact ⟨⟨_, rfl⟩, .inr ⟨_, ⟨pre, j, .tok k t lx cx, rfl, HS.out.2, (⟨_, htk⟩ : El.At T j (.tok k t lx cx))⟩, hJx3⟩⟩
      | flt code lx cx word =>
        rw [htk] at HTk
        refine (wpIn_wide (n := n)).1 ?_
        gi_wp2
        refine ⟨trivial, (callsIn_wide.2 HTk.out).mono ?_⟩
        rintro e w2 ⟨v, rfl, ⟨fb, rfl, hfb, hflt⟩, t2⟩
        unfold tokV
        have ba : Below w2.heap.size w2 (w2.alloc (.cells #[.int .i8 0, .string ByteArray.empty, .int .i64 0, .int .i64 0] 44)) := (Below.refl _ _).alloc (Nat.le_refl _) _
        have hJ2 : J b pre w2 := HJ.out.2.1 b pre wr _ A.out.2.2 HS.out.1 t2
        have hflt2 : Flt fb code lx cx word (w2.alloc (.cells #[.int .i8 0, .string ByteArray.empty, .int .i64 0, .int .i64 0] 44)) := (ba.block fb ((Array.getElem?_eq_some_iff.1 hflt).1)).trans hflt
        obtain ⟨fn, tmps, assign, body, hy, hR⟩ := HJ.out.2.2.2 b pre (.flt fb code lx cx word) w2 (.cells #[.int .i8 0, .string ByteArray.empty, .int .i64 0, .int .i64 0] 44) A.out.2.2 (by have := walk_len H.out.1 HS.out.2; omega) hJ2 ⟨hflt2, by omega⟩
        unfold El.encs at hy
        clear hflt hflt2 t2 hJ2 ba
        gi_wp2
        refine hR.mono ?_
        rintro e W3 (⟨rfl, hJ3, hk3⟩ | ⟨rfl, hJx3⟩)
        · gi_wp2
          refine bodyPost_ret (results_none rfl _ _ _) rfl ?_
          exact ⟨⟨_, rfl⟩, .inl ⟨b, _, A.out.2.2, ⟨pre, j, .flt fb code lx cx word, rfl, HS.out.2, (htk : El.Last T j (.flt fb code lx cx word))⟩, hJ3⟩⟩
        · gi_wp2
          refine bodyPost_ret (results_none rfl _ _ _) rfl ?_
          exact ⟨⟨_, rfl⟩, .inr ⟨_, ⟨pre, j, .flt fb code lx cx word, rfl, HS.out.2, (htk : El.At T j (.flt fb code lx cx word))⟩, hJx3⟩⟩
end Go.Proofs.YtppcofopnelgjaaGreatDoor
set_option linter.unusedVariables false
set_option linter.unusedSimpArgs false
namespace Go.Proofs.YtppcofopnelgjaaGreatDoor
open Go.RowKit
set_option maxHeartbeats 1000000 in
set_option maxRecDepth 100000 in
theorem each_any (s : ByteArray) (w : World) (hs : s.size ≤ 65536) :
    Calls Tryz.prog 45 #[.string s] w fun e w' => ∃ (T : Tx) (cb : Nat), T.s = s ∧ T.C = L.cx s ∧ T.Ok ∧ (0 < T.N ∨ T.ro = none) ∧ e = .returned (.func (.func 67) #[] #[.pointer (some ⟨cb, 0, none⟩)]) ∧
      w'.heap[cb]? = some (.cells #[.string T.s, T.rv, T.sv] 131 (0, 0)) ∧ T.In (fun k => k < w.heap.size) w' ∧ w.heap.size ≤ cb ∧ Below w.heap.size w w' := by
  have e1 : decide ((65536 : Int) < (s.size : Int)) = false := by simp; omega
  go_enter Tryz.func45, Tryz.ntmps45
  go_wp2_with (go_at_call 66; refine (charactersOf_any _ _ hs).mono ?_; rintro e w1 ⟨T, hTs, hTC, hok, rfl, hin, hN, b1⟩; unfold Tx.rv Tx.sv; subst hTs)
  go_ret
  have ba : Below w1.heap.size w1 (w1.alloc (.cells #[.string T.s, .slice T.ro T.N T.rc, .slice (some ⟨T.sb, 0, none⟩) (T.N + 1) T.sc] 131)) := (Below.refl _ _).alloc (Nat.le_refl _) _
  exact ⟨T, w1.heap.size, rfl, hTC, hok, hN, rfl, heap_alloc_new _ _, hin.turn (turn_below ba), b1.size, b1.trans (ba.mono b1.size)⟩
theorem each_long (s : ByteArray) (w : World) (hs : 65536 < s.size) (hm : s.size ≤ maxLen) :
    Calls Tryz.prog 45 #[.string s] w fun e w' => e = .returned (.func (.func 65) #[] #[]) ∧ w' = w := by
  have e1 : decide ((65536 : Int) < (s.size : Int)) = true := by simp; omega
  go_enter Tryz.func45, Tryz.ntmps45
  go_wp2
  go_ret
  exact ⟨rfl, rfl⟩
end Go.Proofs.YtppcofopnelgjaaGreatDoor
