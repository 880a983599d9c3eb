set_option linter.unusedVariables false
set_option linter.unusedSimpArgs false
namespace Go.Proofs.Ytihdagehenmolaa
namespace J
/-- one bit of the sum -/
def stp (r : Nat) : Nat := if r % 2 = 1 then (r / 2) ^^^ 3988292384 else r / 2
theorem stp_lt {r : Nat} (h : r < 4294967296) : stp r < 4294967296 := by
  unfold stp
  split
  · exact Nat.xor_lt_two_pow (n := 32) (by omega) (by decide)
  · omega
theorem bit31 {r : Nat} (h : r < 2147483648) : r.testBit 31 = false := Nat.testBit_lt_two_pow (by simpa using h)
theorem stp_mixed {a b : Nat} (ha : a < 4294967296) (hb : b < 4294967296) (h1 : a % 2 = 1) (h2 : ¬ b % 2 = 1) : stp a ≠ stp b := by
  intro h
  unfold stp at h
  rw [if_pos h1, if_neg h2] at h
  have e := congrArg (fun x => Nat.testBit x 31) h
  simp only [Nat.testBit_xor] at e
  rw [bit31 (r := a / 2) (by omega), bit31 (r := b / 2) (by omega)] at e
  revert e
  decide
theorem xor_inj {a b c : Nat} (h : a ^^^ c = b ^^^ c) : a = b := by
  have := congrArg (fun x => x ^^^ c) h
  simpa [Nat.xor_assoc] using this
theorem stp_inj {a b : Nat} (ha : a < 4294967296) (hb : b < 4294967296) (h : stp a = stp b) : a = b := by
  by_cases h1 : a % 2 = 1
  · by_cases h2 : b % 2 = 1
    · unfold stp at h
      rw [if_pos h1, if_pos h2] at h
      have := xor_inj h
      omega
    · exact absurd h (stp_mixed ha hb h1 h2)
  · by_cases h2 : b % 2 = 1
    · exact absurd h.symm (stp_mixed hb ha h2 h1)
    · unfold stp at h
      rw [if_neg h1, if_neg h2] at h
      omega
/-- so many bits -/
def stps : Nat → Nat → Nat
  | 0, r => r
  | k + 1, r => stp (stps k r)
theorem stps_lt (k : Nat) {r : Nat} (h : r < 4294967296) : stps k r < 4294967296 := by
  induction k with
  | zero => exact h
  | succ k ih => exact stp_lt ih
theorem stps_inj (k : Nat) {a b : Nat} (ha : a < 4294967296) (hb : b < 4294967296) (h : stps k a = stps k b) : a = b := by
  induction k with
  | zero => exact h
  | succ k ih => exact ih (stp_inj (stps_lt k ha) (stps_lt k hb) h)
/-- one byte of the sum -/
def byt (r : Nat) (b : UInt8) : Nat := stps 8 (r ^^^ b.toNat)
theorem u8_lt (b : UInt8) : b.toNat < 256 := b.toNat_lt
theorem xb_lt {r : Nat} (h : r < 4294967296) (b : UInt8) : r ^^^ b.toNat < 4294967296 := Nat.xor_lt_two_pow (n := 32) (by omega) (by have := u8_lt b; omega)
theorem byt_lt {r : Nat} (h : r < 4294967296) (b : UInt8) : byt r b < 4294967296 := stps_lt 8 (xb_lt h b)
theorem byt_inj {a b : Nat} (c : UInt8) (ha : a < 4294967296) (hb : b < 4294967296) (h : byt a c = byt b c) : a = b := xor_inj (stps_inj 8 (xb_lt ha c) (xb_lt hb c) h)
theorem byt_inj2 {a : Nat} {c d : UInt8} (ha : a < 4294967296) (h : byt a c = byt a d) : c = d := by
  have := stps_inj 8 (xb_lt ha c) (xb_lt ha d) h
  rw [Nat.xor_comm a, Nat.xor_comm a] at this
  exact UInt8.toNat_inj.1 (xor_inj this)
def cs (r : Nat) (l : List UInt8) : Nat := l.foldl byt r
theorem cs_lt (l : List UInt8) : ∀ {r : Nat}, r < 4294967296 → cs r l < 4294967296 := by
  induction l with
  | nil => intro r h; exact h
  | cons a t ih => intro r h; exact ih (byt_lt h a)
theorem cs_add (r : Nat) (a b : List UInt8) : cs r (a ++ b) = cs (cs r a) b := List.foldl_append
theorem cs_inj (l : List UInt8) : ∀ {a b : Nat}, a < 4294967296 → b < 4294967296 → cs a l = cs b l → a = b := by
  induction l with
  | nil => intro a b _ _ h; exact h
  | cons c t ih => intro a b ha hb h; exact byt_inj c ha hb (ih (byt_lt ha c) (byt_lt hb c) h)
/-- the sum -/
def sm (l : List UInt8) : Nat := 4294967295 ^^^ cs 4294967295 l
theorem sm_lt (l : List UInt8) : sm l < 4294967296 := Nat.xor_lt_two_pow (n := 32) (by decide) (cs_lt l (by decide))
/-- A BYTE THAT WAS TURNED TURNS THE SUM -/
theorem sm_ne (p s : List UInt8) {a b : UInt8} (h : a ≠ b) : sm (p ++ a :: s) ≠ sm (p ++ b :: s) := by
  intro e
  unfold sm at e
  rw [Nat.xor_comm, Nat.xor_comm 4294967295] at e
  have e := xor_inj e
  rw [cs_add, cs_add] at e
  have hp := cs_lt p (r := 4294967295) (by decide)
  exact h (byt_inj2 hp (cs_inj s (byt_lt hp a) (byt_lt hp b) e))
/-- a number in four bytes -/
def four (n : Nat) : List UInt8 := [UInt8.ofNat (n % 256), UInt8.ofNat (n / 256 % 256), UInt8.ofNat (n / 65536 % 256), UInt8.ofNat (n / 16777216 % 256)]
theorem four_len (n : Nat) : (four n).length = 4 := rfl
def num4 (a b c d : UInt8) : Nat := a.toNat + 256 * b.toNat + 65536 * c.toNat + 16777216 * d.toNat
theorem num4_lt (a b c d : UInt8) : num4 a b c d < 4294967296 := by
  have := u8_lt a; have := u8_lt b; have := u8_lt c; have := u8_lt d
  unfold num4; omega
theorem ofNat_toNat {k : Nat} (h : k < 256) : (UInt8.ofNat k).toNat = k := by
  rw [UInt8.toNat_ofNat']
  exact Nat.mod_eq_of_lt h
theorem num4_four {n : Nat} (h : n < 4294967296) : num4 (UInt8.ofNat (n % 256)) (UInt8.ofNat (n / 256 % 256)) (UInt8.ofNat (n / 65536 % 256)) (UInt8.ofNat (n / 16777216 % 256)) = n := by
  unfold num4
  rw [ofNat_toNat (by omega), ofNat_toNat (by omega), ofNat_toNat (by omega), ofNat_toNat (by omega)]
  omega
theorem four_num4 (a b c d : UInt8) : four (num4 a b c d) = [a, b, c, d] := by
  have ha := u8_lt a; have hb := u8_lt b; have hc := u8_lt c; have hd := u8_lt d
  unfold four num4
  have e1 : (a.toNat + 256 * b.toNat + 65536 * c.toNat + 16777216 * d.toNat) % 256 = a.toNat := by omega
  have e2 : (a.toNat + 256 * b.toNat + 65536 * c.toNat + 16777216 * d.toNat) / 256 % 256 = b.toNat := by omega
  have e3 : (a.toNat + 256 * b.toNat + 65536 * c.toNat + 16777216 * d.toNat) / 65536 % 256 = c.toNat := by omega
  have e4 : (a.toNat + 256 * b.toNat + 65536 * c.toNat + 16777216 * d.toNat) / 16777216 % 256 = d.toNat := by omega
  rw [e1, e2, e3, e4]
  simp
theorem four_inj {a b : Nat} (ha : a < 4294967296) (hb : b < 4294967296) (h : four a = four b) : a = b := by
  unfold four at h
  simp only [List.cons.injEq, and_true] at h
  obtain ⟨h0, h1, h2, h3⟩ := h
  rw [← num4_four ha, ← num4_four hb, h0, h1, h2, h3]
/-- an entry -/
structure En where
  v : Int
  t : List UInt8
def En.ok (e : En) : Prop := 1 ≤ e.v ∧ e.v ≤ 2147483647 ∧ e.t.length ≤ 65536
/-- a record's head -/
def hd (v k : Nat) : List UInt8 := 165 :: (four v ++ four k)
theorem hd_len (v k : Nat) : (hd v k).length = 9 := rfl
/-- a record -/
def rcd (e : En) : List UInt8 := hd e.v.toNat e.t.length ++ (four (sm (hd e.v.toNat e.t.length)) ++ (e.t ++ four (sm e.t)))
theorem rec_len (e : En) : (rcd e).length = 17 + e.t.length := by
  unfold rcd
  rw [List.length_append, List.length_append, List.length_append, hd_len, four_len, four_len]
  omega
theorem cut_eq {α : Type} {a b c d : List α} (h : a ++ b = c ++ d) (hl : a.length = c.length) : a = c ∧ b = d := List.append_inj h hl
/-- what begins with a record, begins with no other one -/
theorem rec_free {a b : En} (ha : a.ok) (hb : b.ok) {x y : List UInt8} (h : rcd a ++ x = rcd b ++ y) : a = b ∧ x = y := by
  obtain ⟨a1, a2, a3⟩ := ha
  obtain ⟨b1, b2, b3⟩ := hb
  unfold rcd at h
  rw [List.append_assoc, List.append_assoc (hd b.v.toNat b.t.length)] at h
  obtain ⟨h1, h2⟩ := cut_eq h rfl
  unfold hd at h1
  rw [List.cons.injEq] at h1
  obtain ⟨h3, h4⟩ := cut_eq h1.2 rfl
  have e1 := four_inj (by omega) (by omega) h3
  have e2 := four_inj (by omega) (by omega) h4
  rw [e1, e2] at h2
  simp only [List.append_assoc] at h2
  have h5 := (cut_eq h2 rfl).2
  obtain ⟨h6, h7⟩ := cut_eq h5 e2
  rw [h6] at h7
  refine ⟨?_, (cut_eq h7 rfl).2⟩
  cases a; cases b
  simp only [En.mk.injEq]
  exact ⟨by simp only at e1 a1 b1; omega, h6⟩
/-- no record begins here -/
def Bare (l : List UInt8) : Prop := ∀ e : En, e.ok → ∀ x, l ≠ rcd e ++ x
/-- records, one behind the other -/
def recs (es : List En) : List UInt8 := es.flatMap rcd
theorem recs_add (a b : List En) : recs (a ++ b) = recs a ++ recs b := List.flatMap_append
theorem recs_one (e : En) : recs [e] = rcd e := by simp [recs]
theorem recs_cons (e : En) (es : List En) : recs (e :: es) = rcd e ++ recs es := rfl
/-- WHAT IS READ: these entries, and no record begins behind them -/
structure Rds (l : List UInt8) (es : List En) : Prop where
  ok : ∀ e ∈ es, e.ok
  rest : ∃ r, l = recs es ++ r ∧ Bare r
theorem Rds.uniq : ∀ {l : List UInt8} {a b : List En}, Rds l a → Rds l b → a = b := by
  intro l a
  induction a generalizing l with
  | nil =>
    intro b ha hb
    obtain ⟨r, h1, h2⟩ := ha.rest
    obtain ⟨s, h3, h4⟩ := hb.rest
    cases b with
    | nil => rfl
    | cons c t =>
      rw [h1, recs_cons] at h3
      simp only [recs, List.flatMap_nil, List.nil_append] at h3
      rw [List.append_assoc] at h3
      exact absurd h3 (h2 c (hb.ok c (by simp)) _)
  | cons c t ih =>
    intro b ha hb
    obtain ⟨r, h1, h2⟩ := ha.rest
    obtain ⟨s, h3, h4⟩ := hb.rest
    cases b with
    | nil =>
      rw [h1, recs_cons] at h3
      simp only [recs, List.flatMap_nil, List.nil_append] at h3
      rw [List.append_assoc] at h3
      exact absurd h3.symm (h4 c (ha.ok c (by simp)) _)
    | cons d u =>
      rw [h1, recs_cons, recs_cons, List.append_assoc, List.append_assoc] at h3
      obtain ⟨e1, e2⟩ := rec_free (ha.ok c (by simp)) (hb.ok d (by simp)) h3
      have q1 : Rds (recs t ++ r) t := ⟨fun e he => ha.ok e (by simp [he]), r, rfl, h2⟩
      have q2 : Rds (recs t ++ r) u := ⟨fun e he => hb.ok e (by simp [he]), s, e2, h4⟩
      rw [e1, ih q1 q2]
theorem Rds.none {l : List UInt8} (h : Bare l) : Rds l [] := ⟨fun e he => by simp at he, l, rfl, h⟩
theorem bare_nil : Bare [] := fun e _ x h => by
  have := congrArg List.length h
  rw [List.length_append, rec_len] at this
  simp only [List.length_nil] at this
  omega
theorem bare_short {l : List UInt8} (h : l.length < 17) : Bare l := fun e _ x q => by
  have := congrArg List.length q
  rw [List.length_append, rec_len] at this
  omega
theorem recs_read {es : List En} (h : ∀ e ∈ es, e.ok) : Rds (recs es) es := ⟨h, [], by simp, bare_nil⟩
end J
end Go.Proofs.Ytihdagehenmolaa
