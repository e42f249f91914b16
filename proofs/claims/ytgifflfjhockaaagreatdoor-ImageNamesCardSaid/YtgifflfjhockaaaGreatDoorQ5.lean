/-
  The plain mathematics of images: which may be, their sum, their bytes, and what is read of bytes. No program, no conditions.
  What Check, Count, ifBody and hasPlace of layer code answer: is a list a body, and how many have an op? Conditions: the list lies in memory.
  What Count, ifBody and hasPlace of layer code answer. Conditions: the list lies in memory.
  The document's Kinds, least, most, in and Check. Conditions: none but that numbers fit an int64.
  What Known, Check, Zero and Nil answer, the code's and the document's. No conditions.
  What Nil answers, the code's and the document's; great. No conditions.
  What the document's Ints and Same answer: are two lists the same? Conditions: the lists lie in memory.
  What Zeros and Of answer: new lists. Conditions: the lists lie in memory, no more than 4096 long.
  What Fits answers. Conditions: the lists lie in memory.
  What the listed package-level variables hold, carried from world to world; Letter and lettered. Conditions: the variables hold what their initialisers lay.
  What Show answers. Conditions: the variables that it reads hold what their initialisers lay; the value's number fits an int64.
  An array of strings among the listed package-level variables, as a list of texts. No conditions.
  What the project's own names of operations and codes answer, and what those that look a name up do. Conditions: the listed package-level variables hold the names.
  What the functions in an operand's fields tell: an operand's text. Conditions: the listed package-level variables hold what their initialisers lay.
  The document's in and Check. Conditions: none but that numbers fit an int64.
  The document's Ends and Goes. Conditions: none but that numbers fit an int64.
  What the document's Check, Count and Head of layer code answer, and its Lists: are two lists the same? Conditions: lists lie in memory; numbers fit an int64.
  A function in memory: its value, its cells, what it reads as. No conditions.
  A region that draws its order and has a neck: an operation that waits for all ahead of it, and for which all behind it wait. What lies ahead is walked in an order of one's own choice (KMix); then the neck comes up alone, and may write what was made. No program, no conditions.
  Which types shapes and signatures may have: what held and all answer, and the document's held. Conditions: the list lies in memory.
  Which shapes and signatures may be: what Check, CheckSignature, Cell and Same answer, the program's and the document's; what the laws' Great and Copy answer. Conditions: the lists lie in memory.
-/
import Derived.IntWalk
import Derived.LaidLaws
import Derived.LaidMore
import Derived.Lib.AppendIntMem
import Derived.Lib.ItoaLen
import Derived.Lib.SmallJoins
import Derived.OpenShut
import Derived.StillTail
import Derived.Test.YtgifflfjhockaaaGreatDoorQ4
import Derived.Test.YtgifflfjhockaaaGreatDoorQ2
import Derived.Test.YtgifflfjhockaaaGreatDoorShelf
import Derived.Test.YtgifflfjhockaaaGreatDoorQ3
namespace Go.Proofs.YtgifflfjhockaaaGreatDoor.I
open Go.RowKit W

/-- An image. -/
structure Im where
  sh : List (List Int)
  fn : List F.Fu
def nilI : Im := ⟨[], []⟩
def names (p : Im) : List (List UInt8) := p.fn.map fun f => f.nm
/-- It may be. -/
def okI (p : Im) : Bool := decide (p.sh.length ≤ 64 ∧ (1 ≤ p.fn.length ∧ p.fn.length ≤ 64) ∧ (names p).Nodup) && (p.sh.all S.okS && p.fn.all F.okF)
def chkI (p : Im) : Int := if okI p = true then 0 else 80
theorem okI_iff (p : Im) : okI p = true ↔ (p.sh.length ≤ 64 ∧ (1 ≤ p.fn.length ∧ p.fn.length ≤ 64) ∧ (names p).Nodup) ∧ p.sh.all S.okS = true ∧ p.fn.all F.okF = true := by
  unfold okI; rw [Bool.and_eq_true, Bool.and_eq_true, decide_eq_true_iff]
theorem okI_not {p : Im} (h : ¬ ((p.sh.length ≤ 64 ∧ (1 ≤ p.fn.length ∧ p.fn.length ≤ 64) ∧ (names p).Nodup) ∧ p.sh.all S.okS = true ∧ p.fn.all F.okF = true)) : okI p = false := by
  cases ho : okI p
  · rfl
  · exact absurd ((okI_iff p).1 ho) h
theorem chkI_ok {p : Im} (h : okI p = true) : chkI p = 0 := if_pos h
theorem chkI_no {p : Im} (h : okI p = false) : chkI p = 80 := if_neg (by rw [h]; decide)

/-- The sum's two numbers, nothing left out; the sum. -/
def adS (s : Nat × Nat) (x : UInt8) : Nat × Nat := (s.1 + x.toNat, s.2 + (s.1 + x.toNat))
def ad (l : List UInt8) : Nat × Nat := l.foldl adS (1, 0)
def sumN (l : List UInt8) : Nat := (ad l).2 % 65521 * 65536 + (ad l).1 % 65521
theorem ad_snoc (l : List UInt8) (x : UInt8) : ad (l ++ [x]) = adS (ad l) x := by simp [ad]
theorem sumN_lt (l : List UInt8) : sumN l < 4294967296 := by
  unfold sumN
  have h1 := Nat.mod_lt (ad l).2 (show 0 < 65521 by omega)
  have h2 := Nat.mod_lt (ad l).1 (show 0 < 65521 by omega)
  omega
/-- A sum's bytes. -/
def four (n : Nat) : List UInt8 := [UInt8.ofNat (n / 16777216), UInt8.ofNat (n / 65536 % 256), UInt8.ofNat (n / 256 % 256), UInt8.ofNat (n % 256)]
theorem four_length (n : Nat) : (four n).length = 4 := rfl

/-- An image's bytes. -/
def magicL : List UInt8 := [98, 107, 115, 116, 1]
def shB (l : List (List Int)) : List UInt8 := V.encL l.length ++ l.flatMap S.bytesT
def fnB (l : List F.Fu) : List UInt8 := V.encL l.length ++ l.flatMap F.bytesF
def inI (p : Im) : List UInt8 := shB p.sh ++ fnB p.fn
def bodyI (p : Im) : List UInt8 := magicL ++ inI p
def bytesI (p : Im) : List UInt8 := bodyI p ++ four (sumN (bodyI p))
def encI (p : Im) : List UInt8 := if okI p = true then bytesI p else []
theorem encI_ok {p : Im} (h : okI p = true) : encI p = bytesI p := if_pos h
theorem encI_no {p : Im} (h : okI p = false) : encI p = [] := if_neg (by rw [h]; decide)
theorem bytesI_length (p : Im) : (bytesI p).length = (bodyI p).length + 4 := by unfold bytesI; rw [List.length_append, four_length]
theorem bodyI_length (p : Im) : (bodyI p).length = 5 + (inI p).length := by unfold bodyI; rw [List.length_append]; rfl

section
variable {α : Type}
/-- So many parts, one behind the other, from a place. -/
def rdK (dec : Nat → Option (α × Nat)) : Nat → Nat → Option (List α × Nat)
  | 0, p => some ([], p)
  | k + 1, p => match rdK dec k p with
    | none => none
    | some a => match dec a.2 with
      | none => none
      | some x => some (a.1 ++ [x.1], x.2)
/-- How many, and these. -/
def rdL (dec : Nat → Option (α × Nat)) (l : List UInt8) (p : Nat) : Option (List α × Nat) :=
  if (V.NumR l p 64).2.1 = 0 then rdK dec (V.NumR l p 64).1 (V.NumR l p 64).2.2 else none
theorem rdK_succ_no {dec : Nat → Option (α × Nat)} {k p : Nat} {a : List α × Nat} (h : rdK dec k p = some a) (h2 : dec a.2 = none) : rdK dec (k + 1) p = none := by
  show (match rdK dec k p with | none => none | some a => _) = _
  rw [h]; dsimp only; rw [h2]
theorem rdK_succ {dec : Nat → Option (α × Nat)} {k p : Nat} {a : List α × Nat} {x : α × Nat} (h : rdK dec k p = some a) (h2 : dec a.2 = some x) : rdK dec (k + 1) p = some (a.1 ++ [x.1], x.2) := by
  show (match rdK dec k p with | none => none | some a => _) = _
  rw [h]; dsimp only; rw [h2]
theorem rdK_none {dec : Nat → Option (α × Nat)} {k p : Nat} (h : rdK dec k p = none) : ∀ n, k ≤ n → rdK dec n p = none := by
  intro n hn
  obtain ⟨d, rfl⟩ := Nat.exists_eq_add_of_le hn
  clear hn
  induction d with
  | zero => exact h
  | succ d ih =>
    show (match rdK dec (k + d) p with | none => none | some a => _) = _
    rw [ih]
theorem rdK_ok {dec : Nat → Option (α × Nat)} {l : List UInt8} {ok : α → Bool} {by_ : α → List UInt8} (hd : ∀ p q x, dec p = some (x, q) → ok x = true ∧ l.drop p = by_ x ++ l.drop q ∧ q = p + (by_ x).length) (p : Nat) :
    ∀ (k q : Nat) (xs : List α), rdK dec k p = some (xs, q) → xs.length = k ∧ xs.all ok = true ∧ l.drop p = xs.flatMap by_ ++ l.drop q ∧ q = p + (xs.flatMap by_).length := by
  intro k
  induction k with
  | zero =>
    intro q xs h
    injection h with h
    injection h with h1 h2
    subst h1 h2
    exact ⟨rfl, rfl, rfl, rfl⟩
  | succ k ih =>
    intro q xs h
    cases h1 : rdK dec k p with
    | none => rw [rdK_none h1 (k + 1) (by omega)] at h; cases h
    | some a =>
      cases h2 : dec a.2 with
      | none => rw [rdK_succ_no h1 h2] at h; cases h
      | some x =>
        rw [rdK_succ h1 h2] at h
        injection h with h
        injection h with h3 h4
        obtain ⟨a, qa⟩ := a
        obtain ⟨x, qx⟩ := x
        dsimp only at h2 h3 h4
        subst h3 h4
        obtain ⟨e1, e2, e3, e4⟩ := ih _ _ h1
        obtain ⟨f1, f2, f3⟩ := hd _ _ _ h2
        refine ⟨by simp [e1], by rw [List.all_append, e2]; simp [f1], ?_, ?_⟩
        · rw [e3, f2]; simp [List.flatMap_append]
        · rw [f3, e4]; simp [List.flatMap_append]; omega
theorem rdK_enc {dec : Nat → Option (α × Nat)} {l t : List UInt8} {ok : α → Bool} {by_ : α → List UInt8} (hd : ∀ p x t, ok x = true → l.drop p = by_ x ++ t → dec p = some (x, p + (by_ x).length)) (p : Nat)
    (xs : List α) (ho : xs.all ok = true) (h : l.drop p = xs.flatMap by_ ++ t) : rdK dec xs.length p = some (xs, p + (xs.flatMap by_).length) := by
  have : ∀ k, k ≤ xs.length → rdK dec k p = some (xs.take k, p + ((xs.take k).flatMap by_).length) := by
    intro k
    induction k with
    | zero => intro _; rfl
    | succ k ih =>
      intro hk
      have h1 := ih (by omega)
      have hlt : k < xs.length := by omega
      have e : xs = xs.take k ++ xs[k] :: xs.drop (k + 1) := by rw [List.getElem_cons_drop, List.take_append_drop]
      have h2 : l.drop (p + ((xs.take k).flatMap by_).length) = by_ xs[k] ++ ((xs.drop (k + 1)).flatMap by_ ++ t) := by
        rw [← List.drop_drop, h]
        have : xs.flatMap by_ = (xs.take k).flatMap by_ ++ (by_ xs[k] ++ (xs.drop (k + 1)).flatMap by_) := by
          conv => lhs; rw [e]
          rw [List.flatMap_append, List.flatMap_cons]
        rw [this, List.append_assoc, List.drop_left' rfl, List.append_assoc]
      have h3 := hd _ _ _ (List.all_eq_true.1 ho _ (List.getElem_mem hlt)) h2
      have e2 : (xs.take (k + 1)).flatMap by_ = (xs.take k).flatMap by_ ++ by_ xs[k] := by rw [List.take_succ_eq_append_getElem hlt, List.flatMap_append]; simp
      rw [rdK_succ h1 h3, e2, List.length_append, List.take_succ_eq_append_getElem hlt, Nat.add_assoc]
  have := this xs.length (Nat.le_refl _)
  rwa [List.take_length] at this
theorem rdL_ok {dec : Nat → Option (α × Nat)} {l : List UInt8} {ok : α → Bool} {by_ : α → List UInt8} (hd : ∀ p q x, dec p = some (x, q) → ok x = true ∧ l.drop p = by_ x ++ l.drop q ∧ q = p + (by_ x).length) {p q : Nat} {xs : List α}
    (h : rdL dec l p = some (xs, q)) : xs.length ≤ 64 ∧ xs.all ok = true ∧ l.drop p = (V.encL xs.length ++ xs.flatMap by_) ++ l.drop q ∧ q = p + (V.encL xs.length ++ xs.flatMap by_).length := by
  unfold rdL at h
  split at h
  · rename_i h0
    obtain ⟨k1, k2, _, k4⟩ := S.num_ok h0
    obtain ⟨e1, e2, e3, e4⟩ := rdK_ok hd _ _ _ _ h
    rw [← e1] at k1 k2 k4
    refine ⟨k2, e2, ?_, ?_⟩
    · rw [k1, e3, List.append_assoc]
    · rw [e4, k4, List.length_append]; omega
  · cases h
theorem rdL_enc {dec : Nat → Option (α × Nat)} {l t : List UInt8} {ok : α → Bool} {by_ : α → List UInt8} (hd : ∀ p x t, ok x = true → l.drop p = by_ x ++ t → dec p = some (x, p + (by_ x).length)) {p : Nat}
    {xs : List α} (h64 : xs.length ≤ 64) (ho : xs.all ok = true) (h : l.drop p = (V.encL xs.length ++ xs.flatMap by_) ++ t) : rdL dec l p = some (xs, p + (V.encL xs.length ++ xs.flatMap by_).length) := by
  have hN := S.num_enc (m := 64) (n := xs.length) (by rw [h, List.append_assoc]) h64 (by omega)
  unfold rdL
  rw [hN]
  dsimp only
  rw [if_pos rfl, rdK_enc hd (p + (V.encL xs.length).length) xs ho (t := t) (by rw [← List.drop_drop, h, List.append_assoc, List.drop_left' rfl]), List.length_append]
  congr 2
  omega
end

/-- What stands between Magic and the sum, and the place behind it. -/
def rdI (l : List UInt8) (p : Nat) : Option (Im × Nat) := match rdL (S.decS l) l p with
  | none => none
  | some a => match rdL (F.decF l) l a.2 with
    | none => none
    | some b => some (⟨a.1, b.1⟩, b.2)
theorem rdI_1 {l : List UInt8} {p : Nat} (h : rdL (S.decS l) l p = none) : rdI l p = none := by unfold rdI; rw [h]
theorem rdI_2 {l : List UInt8} {p : Nat} {a : List (List Int) × Nat} (h : rdL (S.decS l) l p = some a) (h2 : rdL (F.decF l) l a.2 = none) : rdI l p = none := by unfold rdI; rw [h]; dsimp only; rw [h2]
theorem rdI_3 {l : List UInt8} {p : Nat} {a : List (List Int) × Nat} {b : List F.Fu × Nat} (h : rdL (S.decS l) l p = some a) (h2 : rdL (F.decF l) l a.2 = some b) : rdI l p = some (⟨a.1, b.1⟩, b.2) := by
  unfold rdI; rw [h]; dsimp only; rw [h2]
theorem rdI_ok {l : List UInt8} {p q : Nat} {x : Im} (h : rdI l p = some (x, q)) : (x.sh.length ≤ 64 ∧ x.fn.length ≤ 64 ∧ x.sh.all S.okS = true ∧ x.fn.all F.okF = true) ∧ l.drop p = inI x ++ l.drop q ∧ q = p + (inI x).length := by
  cases h1 : rdL (S.decS l) l p with
  | none => rw [rdI_1 h1] at h; cases h
  | some a =>
    cases h2 : rdL (F.decF l) l a.2 with
    | none => rw [rdI_2 h1 h2] at h; cases h
    | some b =>
      rw [rdI_3 h1 h2] at h
      injection h with h
      injection h with h3 h4
      subst h3 h4
      obtain ⟨a, qa⟩ := a
      obtain ⟨b, qb⟩ := b
      dsimp only at h2
      obtain ⟨e1, e2, e3, e4⟩ := rdL_ok (ok := S.okS) (by_ := S.bytesT) (fun _ _ _ h => S.decS_ok h) h1
      obtain ⟨f1, f2, f3, f4⟩ := rdL_ok (ok := F.okF) (by_ := F.bytesF) (fun _ _ _ h => F.decF_ok h) h2
      refine ⟨⟨e1, f1, e2, f2⟩, ?_, ?_⟩
      · unfold inI shB fnB; dsimp only; rw [e3, f3, ← List.append_assoc]
      · unfold inI shB fnB; dsimp only; rw [List.length_append]; omega
theorem rdI_enc {l t : List UInt8} {p : Nat} {x : Im} (hs : x.sh.length ≤ 64) (hf : x.fn.length ≤ 64) (hos : x.sh.all S.okS = true) (hof : x.fn.all F.okF = true) (h : l.drop p = inI x ++ t) : rdI l p = some (x, p + (inI x).length) := by
  unfold inI at h ⊢
  have h1 := rdL_enc (ok := S.okS) (by_ := S.bytesT) (l := l) (p := p) (t := fnB x.fn ++ t) (fun _ _ _ ho h => S.decS_enc ho h) hs hos (by rw [h, List.append_assoc]; rfl)
  have h2 := rdL_enc (ok := F.okF) (by_ := F.bytesF) (l := l) (p := p + (shB x.sh).length) (t := t) (fun _ _ _ ho h => F.decF_enc ho h) hf hof (by rw [← List.drop_drop, h, List.append_assoc, List.drop_left' rfl]; rfl)
  have h3 := rdI_3 h1 h2
  have e : p + (shB x.sh ++ fnB x.fn).length = p + (shB x.sh).length + (fnB x.fn).length := by rw [List.length_append, Nat.add_assoc]
  rw [h3, e]
  rfl
/-- Which image stands between Magic and the sum, if one does. -/
def opI (l : List UInt8) : Option Im := match rdI l 0 with
  | none => none
  | some x => if x.2 = l.length ∧ okI x.1 = true then some x.1 else none
theorem opI_1 {l : List UInt8} (h : rdI l 0 = none) : opI l = none := by unfold opI; rw [h]
theorem opI_2 {l : List UInt8} {x : Im × Nat} (h : rdI l 0 = some x) (h2 : ¬ (x.2 = l.length ∧ okI x.1 = true)) : opI l = none := by unfold opI; rw [h]; exact if_neg h2
theorem opI_3 {l : List UInt8} {x : Im × Nat} (h : rdI l 0 = some x) (h1 : x.2 = l.length) (h2 : okI x.1 = true) : opI l = some x.1 := by unfold opI; rw [h]; exact if_pos ⟨h1, h2⟩
theorem opI_enc {x : Im} (h : okI x = true) : opI (inI x) = some x := by
  obtain ⟨⟨h1, ⟨_, h2⟩, _⟩, h3, h4⟩ := (okI_iff x).1 h
  have h5 := rdI_enc (l := inI x) (p := 0) (t := []) h1 h2 h3 h4 (by simp)
  exact opI_3 h5 (Nat.zero_add _) h

/-- What is read of any bytes, and what is wrong. -/
def decI (b : List UInt8) : Im × Int :=
  if b.take 5 ≠ magicL then (nilI, 81)
  else if b.length < 9 ∨ b.drop (b.length - 4) ≠ four (sumN (b.take (b.length - 4))) then (nilI, 82)
  else match opI ((b.take (b.length - 4)).drop 5) with
    | none => (nilI, 80)
    | some p => (p, 0)
theorem decI_1 {b : List UInt8} (h : b.take 5 ≠ magicL) : decI b = (nilI, 81) := if_pos h
theorem decI_2 {b : List UInt8} (h : b.take 5 = magicL) (h2 : b.length < 9 ∨ b.drop (b.length - 4) ≠ four (sumN (b.take (b.length - 4)))) : decI b = (nilI, 82) := by
  unfold decI; rw [if_neg (fun hh => hh h)]; exact if_pos h2
theorem decI_3 {b : List UInt8} (h : b.take 5 = magicL) (h2 : 9 ≤ b.length) (h3 : b.drop (b.length - 4) = four (sumN (b.take (b.length - 4)))) (h4 : opI ((b.take (b.length - 4)).drop 5) = none) : decI b = (nilI, 80) := by
  unfold decI; rw [if_neg (fun hh => hh h), if_neg (by rintro (hh | hh); omega; exact hh h3), h4]
theorem decI_4 {b : List UInt8} {p : Im} (h : b.take 5 = magicL) (h2 : 9 ≤ b.length) (h3 : b.drop (b.length - 4) = four (sumN (b.take (b.length - 4)))) (h4 : opI ((b.take (b.length - 4)).drop 5) = some p) : decI b = (p, 0) := by
  unfold decI; rw [if_neg (fun hh => hh h), if_neg (by rintro (hh | hh); omega; exact hh h3), h4]
theorem decI_enc {p : Im} (h : okI p = true) : decI (bytesI p) = (p, 0) := by
  have hl := bytesI_length p
  have hl2 := bodyI_length p
  have ht : (bytesI p).take ((bytesI p).length - 4) = bodyI p := by rw [hl, Nat.add_sub_cancel]; unfold bytesI; exact List.take_left' rfl
  have hd : (bytesI p).drop ((bytesI p).length - 4) = four (sumN (bodyI p)) := by rw [hl, Nat.add_sub_cancel]; unfold bytesI; exact List.drop_left' rfl
  refine decI_4 ?_ (by omega) (by rw [hd, ht]) ?_
  · unfold bytesI bodyI; rw [List.append_assoc]; exact List.take_left' rfl
  · rw [ht]
    have : (bodyI p).drop 5 = inI p := by unfold bodyI; exact List.drop_left' rfl
    rw [this]
    exact opI_enc h
/-- The number of the first function of a name. -/
def findI (l : List F.Fu) (s : List UInt8) : Option Nat := l.findIdx? fun f => decide (f.nm = s)
def findN (l : List F.Fu) (s : List UInt8) : Int := match findI l s with
  | none => 0
  | some i => (i : Int)
def findE (l : List F.Fu) (s : List UInt8) : Int := match findI l s with
  | none => 83
  | some _ => 0
instance fuEq : DecidableEq F.Fu := fun a b => decidable_of_iff (F.sameF a b = true) (F.sameF_iff a b)
/-- Are both the same? -/
def sameI (p q : Im) : Bool := decide (p.sh = q.sh ∧ p.fn = q.fn)

end Go.Proofs.YtgifflfjhockaaaGreatDoor.I

namespace Go.Proofs.YtgifflfjhockaaaGreatDoor.C
open Go.RowKit O

theorem goes_gen (op a b to : Int) (t : Bool) (w : World) (h1 : goesN op a b = to) (h2 : goesI op a b = t) :
    Calls Tryz.prog 168 #[instV op a b] w fun e w' => e = .returned (.tuple #[.int .i64 to, .bool t]) ∧ Keep NoB w w' := by subst h1 h2; exact goes_any op a b w
theorem ends_gen (op a b : Int) (t : Bool) (w : World) (h : endsI op a b = t) :
    Calls Tryz.prog 167 #[instV op a b] w fun e w' => e = .returned (.bool t) ∧ Keep NoB w w' := by subst h; exact ends_any op a b w
theorem chk_gen (op a b c : Int) (w : World) (h : chk op a b = c) :
    Calls Tryz.prog 169 #[instV op a b] w fun e w' => e = .returned (.int .i64 c) ∧ Keep NoB w w' := by subst h; exact check_any op a b w
theorem blk3 {w : World} {g : Nat} {t : TypeId} {a0 a1 a2 : Value} (h : Blk w g t #[a0, a1, a2]) : w.cell? ⟨g, 0, none⟩ = some a0 ∧ w.cell? ⟨g, 1, none⟩ = some a1 ∧ w.cell? ⟨g, 2, none⟩ = some a2 := ⟨h.cell 0, h.cell 1, h.cell 2⟩

set_option maxRecDepth 100000 in
set_option maxHeartbeats 4000000 in
theorem cchk_any (A : Option Addr) (l : List I3) (n c : Nat) (w : World) (hr : Rd w A (iis l)) (hn : Hid (l.length = n)) (hm : n ≤ 9223372036854775807) (R : Int) (hR : Hid (chkB l = R)) :
    Calls Tryz.prog 125 #[.slice A n c] w fun e w' => e = .returned (.int .i64 R) ∧ Keep NoB w w' := by
  by_cases h0 : n = 0
  · subst h0
    obtain rfl : 50 = R := by rw [← hR.out, List.length_eq_zero_iff.1 hn.out]; rfl
    go_enter Tryz.func125, Tryz.ntmps125
    go_wp2
    go_ret
    exact ⟨rfl, Keep.refl _ _⟩
  have hz : ((n : Int) == 0) = false := by rw [beq_eq_false_iff_ne]; omega
  by_cases h5 : 512 < n
  · obtain rfl : 50 = R := by rw [← hR.out, chkB_no (okB_long (by rw [hn.out]; omega))]
    have hq : decide ((512 : Int) < (n : Int)) = true := by rw [decide_eq_true_iff]; omega
    clear h5 h0
    go_enter Tryz.func125, Tryz.ntmps125
    go_wp2
    go_ret
    exact ⟨rfl, Keep.refl _ _⟩
  have hq : decide ((512 : Int) < (n : Int)) = false := by rw [decide_eq_false_iff_not]; omega
  obtain ⟨m, rfl⟩ : ∃ m, n = m + 1 := ⟨n - 1, by omega⟩
  have hz2 : ((m : Int) + 1 == 0) = false := by rw [beq_eq_false_iff_ne]; omega
  have hq2 : decide ((512 : Int) < (m : Int) + 1) = false := by rw [decide_eq_false_iff_not]; omega
  have hl0 : 0 < l.length := by rw [hn.out]; omega
  obtain ⟨g, off, rfl, hc⟩ := rdJ_at hr hl0
  have hml : m < l.length := by rw [hn.out]; omega
  obtain ⟨c0, c1, c2⟩ := hc m hml
  have HC := Lib.hid hc
  have hlast : Hid (lastB l = eB l[m]) := by
    show _ = _
    rw [lastB_at hl0]
    congr 2
    rw [hn.out]; omega
  clear hc hr h0 h5 hl0
  generalize l[m] = x at c0 c1 c2 hlast
  obtain ⟨op, a, b⟩ := x
  dsimp only at c0 c1 c2
  cases he : endsI op a b
  · obtain rfl : 50 = R := by rw [← hR.out, chkB_no (okB_last (by rw [hlast.out]; exact he))]
    have HE := Lib.hid (fun w => ends_gen op a b _ w he)
    clear he hlast HC hR
    go_enter Tryz.func125, Tryz.ntmps125
    go_wp2_with (go_at_call 167; refine (HE.out _).mono ?_; rintro e w1 ⟨rfl, k1⟩)
    go_ret
    exact ⟨rfl, k1⟩
  have HL : Hid (lastB l = true) := by show _ = _; rw [hlast.out]; exact he
  have HE := Lib.hid (fun w => ends_gen op a b _ w he)
  clear he hlast
  go_enter Tryz.func125, Tryz.ntmps125
  go_wp2_with (go_at_call 167; refine (HE.out _).mono ?_; rintro e w1 ⟨rfl, k1⟩)
  clear c0 c1 c2 HE hml
  go_loopw [27] (fun i wr => ∃ k : Nat, k ≤ m + 1 ∧ i = .int .i64 k ∧ Hid ((l.take k).all (itemB (m + 1)) = true) ∧ Keep NoB w wr) (fun i _ => m + 1 - (intOf i).toNat)
  case atStart => exact ⟨0, Nat.zero_le _, rfl, rfl, k1⟩
  case round =>
    obtain ⟨k, hk, rfl, hall, hK⟩ := hrel
    by_cases hlt : k < m + 1
    · have hkl : k < l.length := by rw [hn.out]; exact hlt
      obtain ⟨d0, d1, d2⟩ := HC.out k hkl
      have c0 := hK.cell d0 id
      have c1 := hK.cell d1 id
      have c2 := hK.cell d2 id
      have HT := Lib.hid (show l.take (k + 1) = l.take k ++ [l[k]] from List.take_succ_eq_append_getElem hkl)
      have HN : Hid (itemB l.length l[k] = false → 50 = R) := fun h => by rw [← hR.out, chkB_no (okB_item (all_no hkl h))]
      rw [hn.out] at HN
      clear d0 d1 d2
      generalize l[k] = x at c0 c1 c2 HT HN
      obtain ⟨op, a, b⟩ := x
      dsimp only at c0 c1 c2
      obtain ⟨to, hto⟩ : ∃ to, goesN op a b = to := ⟨_, rfl⟩
      have hb : 0 ≤ to ∧ to ≤ 511 := by rw [← hto]; exact gN_in (op, a, b)
      have HG := Lib.hid (fun w => goes_gen op a b to _ w hto rfl)
      have bx := Blk.new wr 63 #[.int .i64 op, .int .i64 a, .int .i64 b]
      have gK := hK.alloc (.cells #[.int .i64 op, .int .i64 a, .int .i64 b] 63)
      cases ho : okI op a b
      · obtain rfl := HN.out (item_no1 ho)
        have HO := Lib.hid (fun w => chk_gen op a b 40 w (by unfold chk; rw [ho]; rfl))
        clear ho hto HN HT HL hall hK hR
        go_wp2_with fail
        refine (HG.out _).mono ?_
        rintro e w2 ⟨rfl, k2⟩
        replace bx := bx.keep k2 id
        replace gK := keepN gK k2
        obtain ⟨x0, x1, x2⟩ := blk3 bx
        go_wp2_with (go_at_call 169; refine (HO.out _).mono ?_; rintro e w3 ⟨rfl, k3⟩)
        go_ret
        exact ⟨rfl, keepN gK k3⟩
      have HO := Lib.hid (fun w => chk_gen op a b 0 w (by unfold chk; rw [ho]; rfl))
      by_cases ht : to < ((m + 1 : Nat) : Int)
      · have ht2 : ¬ ((m : Int) + 1 ≤ to) := by omega
        have ha2 : Hid ((l.take (k + 1)).all (itemB (m + 1)) = true) := by
          show _ = _
          rw [HT.out, List.all_append, hall.out]
          simp only [List.all_cons, List.all_nil, Bool.and_true, Bool.true_and]
          exact item_yes ho (by show goesN op a b < _; rw [hto]; exact ht)
        clear ho hto HN HT HL hall hK hR ht
        go_wp2_with fail
        refine (HG.out _).mono ?_
        rintro e w2 ⟨rfl, k2⟩
        replace bx := bx.keep k2 id
        replace gK := keepN gK k2
        obtain ⟨x0, x1, x2⟩ := blk3 bx
        go_wp2_with (go_at_call 169; refine (HO.out _).mono ?_; rintro e w3 ⟨rfl, k3⟩)
        go_roundw
        case rel => exact ⟨k + 1, by omega, by go_num, ha2, keepN gK k3⟩
        case measure => simp [intOf]; omega
      · obtain rfl := HN.out (item_no2 (by show ¬ goesN op a b < _; rw [hto]; exact ht))
        have ht2 : ((m : Int) + 1 ≤ to) := by omega
        clear ho hto HN HT HL hall hK hR ht
        go_wp2_with fail
        refine (HG.out _).mono ?_
        rintro e w2 ⟨rfl, k2⟩
        replace bx := bx.keep k2 id
        replace gK := keepN gK k2
        obtain ⟨x0, x1, x2⟩ := blk3 bx
        go_wp2_with (go_at_call 169; refine (HO.out _).mono ?_; rintro e w3 ⟨rfl, k3⟩)
        go_ret
        exact ⟨rfl, keepN gK k3⟩
    · obtain rfl : 0 = R := by
        rw [← hR.out, chkB_ok (okB_mk (by rw [hn.out]; have := decide_eq_false_iff_not.1 hq; omega) HL.out ?_)]
        have := hall.out
        rw [List.take_of_length_le (by rw [hn.out]; omega)] at this
        rw [hn.out]; exact this
      clear HC hR
      go_wp2
      go_ret
      exact ⟨rfl, hK⟩

end Go.Proofs.YtgifflfjhockaaaGreatDoor.C

namespace Go.Proofs.YtgifflfjhockaaaGreatDoor.C
open Go.RowKit O

/-- The slice, if the list is a body; nil, if it is not. -/
def ifV (l : List I3) (v : Value) : Value := if okB l = true then v else .slice none 0 0
theorem ifV_ok {l : List I3} (h : okB l = true) (v : Value) : ifV l v = v := if_pos h
theorem ifV_no {l : List I3} (h : okB l = false) (v : Value) : ifV l v = .slice none 0 0 := if_neg (by rw [h]; decide)

set_option maxRecDepth 100000 in
set_option maxHeartbeats 2000000 in
theorem ifBody_any (A : Option Addr) (l : List I3) (n c : Nat) (w : World) (hr : Rd w A (iis l)) (hn : Hid (l.length = n)) (hm : n ≤ 9223372036854775807) :
    Calls Tryz.prog 184 #[.slice A n c] w fun e w' => e = .returned (.tuple #[ifV l (.slice A n c), .int .i64 (chkB l)]) ∧ Keep NoB w w' := by
  cases ho : okB l
  · rw [ifV_no ho, chkB_no ho]
    have HC := Lib.hid (fun w hr => cchk_any A l n c w hr hn hm 50 (chkB_no ho))
    clear ho
    go_enter Tryz.func184, Tryz.ntmps184
    go_wp2_with (go_at_call 125; refine (HC.out _ hr).mono ?_; rintro e w1 ⟨rfl, k1⟩)
    go_ret2
    exact ⟨rfl, k1⟩
  · rw [ifV_ok ho, chkB_ok ho]
    have HC := Lib.hid (fun w hr => cchk_any A l n c w hr hn hm 0 (chkB_ok ho))
    clear ho
    go_enter Tryz.func184, Tryz.ntmps184
    go_wp2_with (go_at_call 125; refine (HC.out _ hr).mono ?_; rintro e w1 ⟨rfl, k1⟩)
    go_ret2
    exact ⟨rfl, k1⟩

end Go.Proofs.YtgifflfjhockaaaGreatDoor.C

namespace Go.Proofs.YtgifflfjhockaaaGreatDoor.O
open Go.RowKit

theorem pr_ii {a b a' b' : Int} (h1 : a = a') (h2 : b = b') : Ending.returned (.tuple #[.int .i64 a, .int .i64 b]) = .returned (.tuple #[.int .i64 a', .int .i64 b']) := by rw [h1, h2]

set_option maxRecDepth 100000 in
set_option maxHeartbeats 4000000 in
theorem rkinds_any (op : Int) (w : World) :
    Calls Tryz.prog 187 #[.int .i64 op] w fun e w' => e = .returned (.tuple #[.int .i64 (rowAt op).ka, .int .i64 (rowAt op).kb]) ∧ w = w' := by
  cases ho : isOp op
  · have hn := isOp_no ho
    rw [rowAt_no ho]
    have h : ∀ k : Int, 0 ≤ k → k < 30 → (op == k) = false := fun k h0 h1 => by rw [beq_eq_false_iff_ne]; intro e; exact hn ⟨by omega, by omega⟩
    have a1 := h 1 (by decide) (by decide); have a2 := h 2 (by decide) (by decide); have a3 := h 3 (by decide) (by decide); have a4 := h 4 (by decide) (by decide)
    have a5 := h 5 (by decide) (by decide); have a8 := h 8 (by decide) (by decide); have a9 := h 9 (by decide) (by decide); have a10 := h 10 (by decide) (by decide)
    have a11 := h 11 (by decide) (by decide); have a15 := h 15 (by decide) (by decide); have a16 := h 16 (by decide) (by decide); have a17 := h 17 (by decide) (by decide)
    have a18 := h 18 (by decide) (by decide); have a19 := h 19 (by decide) (by decide); have a20 := h 20 (by decide) (by decide); have a21 := h 21 (by decide) (by decide)
    have a22 := h 22 (by decide) (by decide); have a23 := h 23 (by decide) (by decide)
    clear h hn ho
    go_enter Tryz.func187, Tryz.ntmps187
    go_wp2
    go_ret2
    exact ⟨pr_ii rfl rfl, rfl⟩
  · have hb := isOp_yes ho
    clear ho
    have hc : op = 0 ∨ op = 1 ∨ op = 2 ∨ op = 3 ∨ op = 4 ∨ op = 5 ∨ op = 6 ∨ op = 7 ∨ op = 8 ∨ op = 9 ∨ op = 10 ∨ op = 11 ∨ op = 12 ∨ op = 13 ∨ op = 14 ∨ op = 15 ∨ op = 16 ∨ op = 17 ∨ op = 18 ∨ op = 19 ∨ op = 20 ∨ op = 21 ∨ op = 22 ∨ op = 23 ∨ op = 24 ∨ op = 25 ∨ op = 26 ∨ op = 27 ∨ op = 28 ∨ op = 29 := by omega
    clear hb
    rcases hc with rfl | rfl | rfl | rfl | rfl | rfl | rfl | rfl | rfl | rfl | rfl | rfl | rfl | rfl | rfl | rfl | rfl | rfl | rfl | rfl | rfl | rfl | rfl | rfl | rfl | rfl | rfl | rfl | rfl | rfl
    all_goals
      go_enter Tryz.func187, Tryz.ntmps187
      go_wp2
      go_ret2
      exact ⟨pr_ii rfl rfl, rfl⟩

end Go.Proofs.YtgifflfjhockaaaGreatDoor.O

namespace Go.Proofs.YtgifflfjhockaaaGreatDoor.W
open Go.RowKit

/-- What Check answers. -/
def chk (t n : Int) : Int := if okB t n = true then 0 else 21
set_option maxHeartbeats 400000 in
theorem known_any (t : Int) (w : World) :
    Calls Tryz.prog 156 #[.int .i64 t] w fun e w' => e = .returned (.bool (knownB t)) ∧ w = w' := by
  by_cases h1 : 1 ≤ t
  · by_cases h2 : t < 5
    · go_enter Tryz.func156, Tryz.ntmps156
      go_wp2
      go_ret
      exact ⟨ret_bool (by simp [knownB]; omega), rfl⟩
    · go_enter Tryz.func156, Tryz.ntmps156
      go_wp2
      go_ret
      exact ⟨ret_bool (by simp [knownB]; omega), rfl⟩
  · go_enter Tryz.func156, Tryz.ntmps156
    go_wp2
    go_ret
    exact ⟨ret_bool (by simp [knownB]; omega), rfl⟩

/-! ### Zero, Nil -/

end Go.Proofs.YtgifflfjhockaaaGreatDoor.W

namespace Go.Proofs.YtgifflfjhockaaaGreatDoor.W
open Go.RowKit

/-! ### great -/

end Go.Proofs.YtgifflfjhockaaaGreatDoor.W

namespace Go.Proofs.YtgifflfjhockaaaGreatDoor.W
open Go.RowKit

end Go.Proofs.YtgifflfjhockaaaGreatDoor.W

namespace Go.Proofs.YtgifflfjhockaaaGreatDoor.W
open Go.RowKit

/-- The zeros of types. -/
def zs (l : List Int) : List (Int × Int) := l.map fun t => (t, 0)

end Go.Proofs.YtgifflfjhockaaaGreatDoor.W

namespace Go.Proofs.YtgifflfjhockaaaGreatDoor.W
open Go.RowKit

end Go.Proofs.YtgifflfjhockaaaGreatDoor.W

namespace Go.Proofs.YtgifflfjhockaaaGreatDoor.W
open Go.RowKit

theorem gLet : Tryz.prog.globalNamed "backstay/value.letters" = some 0 := by kernel_rfl
theorem gPow : Tryz.prog.globalNamed "internal/strconv.uint64pow10" = some 3 := by kernel_rfl
theorem gSyn : Tryz.prog.globalNamed "strconv.ErrSyntax" = some 4 := by kernel_rfl
theorem gRng : Tryz.prog.globalNamed "strconv.ErrRange" = some 5 := by kernel_rfl

theorem var_keep {n : String} {g : Nat} {cs : Array Value} {w w' : World} (hg : Tryz.prog.globalNamed n = some g) (h : w.var? Tryz.prog n = some cs) (hk : Keep NoB w w') : w'.var? Tryz.prog n = some cs :=
  Go.Joins.var_stays hg h hk.toBelow (Nat.le_refl _)

def letV : Array Value := #[.int .i32 0, .int .i32 73, .int .i32 82, .int .i32 70, .int .i32 80]
/-- The letters stand. -/
def LetAt (w : World) : Prop := w.var? Tryz.prog "backstay/value.letters" = some letV
theorem LetAt.keep {w w' : World} (h : LetAt w) (hk : Keep NoB w w') : LetAt w' := var_keep gLet h hk
theorem LetAt.cell {w : World} (h : LetAt w) (i : Nat) : w.cell? ⟨0, i, none⟩ = letV[i]? := World.var?_cell gLet h i

/-- What the texts of values are made with stands. -/
structure Laid (w : World) : Prop where
  pow : Lib.TabIs Tryz.prog w "internal/strconv.uint64pow10" .u64 Lib.pow10Tab
  syn : ∃ tp p, w.var? Tryz.prog "strconv.ErrSyntax" = some #[.iface tp p]
  rng : ∃ tp p, w.var? Tryz.prog "strconv.ErrRange" = some #[.iface tp p]
theorem Laid.keep {w w' : World} (h : Laid w) (hk : Keep NoB w w') : Laid w' :=
  ⟨var_keep gPow h.pow hk, h.syn.imp fun _ ⟨p, hp⟩ => ⟨p, var_keep gSyn hp hk⟩, h.rng.imp fun _ ⟨p, hp⟩ => ⟨p, var_keep gRng hp hk⟩⟩
set_option maxRecDepth 100000 in
set_option maxHeartbeats 1000000 in
theorem letter_any (t : Int) (w : World) (h : LetAt w) :
    Calls Tryz.prog 214 #[.int .i64 t] w fun e w' => e = .returned (.string (str (letC t))) ∧ w = w' := by
  cases hk : knownB t
  · have HL := Lib.hid (letC_none hk)
    go_enter Tryz.func214, Tryz.ntmps214
    go_wp2_with (go_at_call 156; refine (known_any _ _).mono ?_; rintro e w' ⟨rfl, rfl⟩)
    go_ret
    exact ⟨by rw [HL.out]; rfl, rfl⟩
  · rcases known_cases hk with rfl | rfl | rfl | rfl
    · have c : w.cell? ⟨0, 1, none⟩ = some (.int .i32 73) := h.cell 1
      go_enter Tryz.func214, Tryz.ntmps214
      go_wp2_with (go_at_call 156; refine (known_any _ _).mono ?_; rintro e w' ⟨rfl, rfl⟩)
      go_ret
      exact ⟨rfl, rfl⟩
    · have c : w.cell? ⟨0, 2, none⟩ = some (.int .i32 82) := h.cell 2
      go_enter Tryz.func214, Tryz.ntmps214
      go_wp2_with (go_at_call 156; refine (known_any _ _).mono ?_; rintro e w' ⟨rfl, rfl⟩)
      go_ret
      exact ⟨rfl, rfl⟩
    · have c : w.cell? ⟨0, 3, none⟩ = some (.int .i32 70) := h.cell 3
      go_enter Tryz.func214, Tryz.ntmps214
      go_wp2_with (go_at_call 156; refine (known_any _ _).mono ?_; rintro e w' ⟨rfl, rfl⟩)
      go_ret
      exact ⟨rfl, rfl⟩
    · have c : w.cell? ⟨0, 4, none⟩ = some (.int .i32 80) := h.cell 4
      go_enter Tryz.func214, Tryz.ntmps214
      go_wp2_with (go_at_call 156; refine (known_any _ _).mono ?_; rintro e w' ⟨rfl, rfl⟩)
      go_ret
      exact ⟨rfl, rfl⟩

end Go.Proofs.YtgifflfjhockaaaGreatDoor.W

namespace Go.Proofs.YtgifflfjhockaaaGreatDoor.W
open Go.RowKit

end Go.Proofs.YtgifflfjhockaaaGreatDoor.W

namespace Go.Proofs.YtgifflfjhockaaaGreatDoor.A
open Go.ChangeShapes Go.WideShapes Go.ChangeAt Go.RowKit

end Go.Proofs.YtgifflfjhockaaaGreatDoor.A

namespace Go.Proofs.YtgifflfjhockaaaGreatDoor.A
open Go.RowKit

theorem gBin : Tryz.prog.globalNamed "backstay/alu.binNames" = some 1 := by kernel_rfl
theorem gUn : Tryz.prog.globalNamed "backstay/alu.unNames" = some 2 := by kernel_rfl
theorem var_keepA {n : String} {g : Nat} {cs : Array Value} {w w' : World} (hg : Tryz.prog.globalNamed n = some g) (h : w.var? Tryz.prog n = some cs) (hk : Keep NoB w w') : w'.var? Tryz.prog n = some cs :=
  Go.Joins.var_stays hg h hk.toBelow (Nat.le_refl _)

/-- The names stand. -/
structure NamesAt (w : World) : Prop where
  bin : w.var? Tryz.prog "backstay/alu.binNames" = some (svs binNs).toArray
  un : w.var? Tryz.prog "backstay/alu.unNames" = some (svs unNs).toArray
theorem NamesAt.keep (w w' : World) (h : NamesAt w) (hk : Keep NoB w w') : NamesAt w' := ⟨var_keepA gBin h.bin hk, var_keepA gUn h.un hk⟩

end Go.Proofs.YtgifflfjhockaaaGreatDoor.A

namespace Go.Proofs.YtgifflfjhockaaaGreatDoor.O
open Go.RowKit

/-- What the texts of operands are made with stands. -/
structure LaidO (w : World) : Prop where
  lets : W.LetAt w
  names : A.NamesAt w
  lib : W.Laid w
theorem LaidO.keep {w w' : World} (h : LaidO w) (hk : Keep NoB w w') : LaidO w' := ⟨h.lets.keep hk, A.NamesAt.keep _ _ h.names hk, h.lib.keep hk⟩
def I64 (n : Int) : Prop := -9223372036854775808 ≤ n ∧ n ≤ 9223372036854775807

theorem nameAt_len {l : List (List UInt8)} {m : Nat} (h : l.all (fun s => decide (s.length ≤ m)) = true) (n : Int) : (A.nameAt l n).length ≤ m := by
  unfold A.nameAt
  split
  · rcases Nat.lt_or_ge n.toNat l.length with hlt | hge
    · rw [A.getD_at hlt]
      exact of_decide_eq_true (List.all_eq_true.1 h _ (List.getElem_mem hlt))
    · rw [A.getD_past hge]; exact Nat.zero_le _
  · exact Nat.zero_le _
theorem word_len (k n : Int) (hn : I64 n) : (word k n).length ≤ 21 := by
  unfold word
  split
  · unfold W.letC
    repeat' split
    all_goals simp
  · split
    · exact Nat.le_trans (nameAt_len (m := 6) (by decide) n) (by omega)
    · split
      · exact Nat.le_trans (nameAt_len (m := 6) (by decide) n) (by omega)
      · exact Lib.itoa_length_le n hn.1 hn.2

end Go.Proofs.YtgifflfjhockaaaGreatDoor.O

namespace Go.Proofs.YtgifflfjhockaaaGreatDoor.O
open Go.RowKit

theorem blk_inst {w : World} {g : Nat} {t : TypeId} {a0 a1 a2 : Value} (h : Blk w g t #[a0, a1, a2]) : w.cell? ⟨g, 0, none⟩ = some a0 ∧ w.cell? ⟨g, 1, none⟩ = some a1 ∧ w.cell? ⟨g, 2, none⟩ = some a2 := ⟨h.cell 0, h.cell 1, h.cell 2⟩

end Go.Proofs.YtgifflfjhockaaaGreatDoor.O

namespace Go.Proofs.YtgifflfjhockaaaGreatDoor.O
open Go.RowKit

end Go.Proofs.YtgifflfjhockaaaGreatDoor.O

namespace Go.Proofs.YtgifflfjhockaaaGreatDoor.C
open Go.RowKit O

/-- The numbers of a list fit. -/
def AllI (l : List I3) : Prop := ∀ x ∈ l, O.I64 x.2.1 ∧ O.I64 x.2.2

end Go.Proofs.YtgifflfjhockaaaGreatDoor.C

namespace Go.Proofs.YtgifflfjhockaaaGreatDoor.F
open Go.RowKit W

/-- A function's value: its name, and where its lists lie. -/
structure FV where
  S : ByteArray
  A : Option Addr
  na : Nat
  ca : Nat
  B : Option Addr
  nb : Nat
  cb : Nat
  L : Option Addr
  nl : Nat
  cl : Nat
  D : Option Addr
  nd : Nat
  cd : Nat
def FV.cells (v : FV) : Array Value := #[.string v.S, .slice v.A v.na v.ca, .slice v.B v.nb v.cb, .slice v.L v.nl v.cl, .slice v.D v.nd v.cd]
def FV.val (v : FV) : Value := .agg v.cells
/-- What its lists hold, wherever the value itself lies; numbers fit an int64. -/
structure FnAt (w : World) (v : FV) (f : Fu) : Prop where
  nm : v.S.data.toList = f.nm
  ra : Rd w v.A (ivs f.ar)
  rb : Rd w v.B (ivs f.rs)
  rl : Rd w v.L (ivs f.lc)
  rd : Rd w v.D (C.iis f.bd)
  la : f.ar.length = v.na
  lb : f.rs.length = v.nb
  ll : f.lc.length = v.nl
  ld : f.bd.length = v.nd
  hI : C.AllI f.bd
/-- It is no greater than statements go through. -/
structure SmF (v : FV) : Prop where
  sz : v.S.size ≤ 100
  na : v.na ≤ 100
  nb : v.nb ≤ 100
  nl : v.nl ≤ 100
  nd : v.nd ≤ 600
theorem FnAt.keep {O : Nat → Prop} {w w' : World} {v : FV} {f : Fu} (h : FnAt w v f) (hk : Keep O w w') (hO : ∀ k, k < w.heap.size → ¬ O k) : FnAt w' v f :=
  have h2 : Keep NoB w w' := hk.mono (fun k ho hl => absurd ho (hO k hl))
  ⟨h.nm, h.ra.keepN h2, h.rb.keepN h2, h.rl.keepN h2, h.rd.keepN h2, h.la, h.lb, h.ll, h.ld, h.hI⟩
theorem FnAt.keepN {w w' : World} {v : FV} {f : Fu} (h : FnAt w v f) (hk : Keep NoB w w') : FnAt w' v f := h.keep hk (fun _ _ => id)
theorem sz_len {S : ByteArray} {s : List UInt8} (h : S.data.toList = s) : S.size = s.length := by rw [← h]; rfl
theorem blk5 {w : World} {g : Nat} {t : TypeId} {v : FV} (h : Blk w g t v.cells) : w.cell? ⟨g, 0, none⟩ = some (.string v.S) ∧ w.cell? ⟨g, 1, none⟩ = some (.slice v.A v.na v.ca) ∧ w.cell? ⟨g, 2, none⟩ = some (.slice v.B v.nb v.cb) ∧
    w.cell? ⟨g, 3, none⟩ = some (.slice v.L v.nl v.cl) ∧ w.cell? ⟨g, 4, none⟩ = some (.slice v.D v.nd v.cd) := ⟨h.cell 0, h.cell 1, h.cell 2, h.cell 3, h.cell 4⟩

end Go.Proofs.YtgifflfjhockaaaGreatDoor.F

namespace Go.Proofs.YtgifflfjhockaaaGreatDoor
open Go.RowKit

section
variable {P : Program} {ops : Array Oper} {md : Region.Mode}

/-- Behind number n each waits for one behind, or for it. -/
def chain2 (md : Region.Mode) (ops : Array Oper) (n : Nat) : Bool := (List.range ops.size).all fun t => decide (t ≤ n) || (List.range t).any fun j => decide (n ≤ j) && Region.waitsFor md ops t j

theorem head_only {n : Nat} {listed : Array Bool} (hs : Region.sinkB md ops n = true) (hc : chain2 md ops n = true) (inv : HeadInv md ops n listed) :
    ∀ (d i : Nat), n - i = d → i < n → listed.getD i true = false → ∀ t, t ∈ Region.ready md ops listed → t < n := by
  intro d
  induction d using Nat.strongRecOn with
  | _ d ih =>
    intro i hd hi hu t ht
    obtain ⟨htu, ot, hot, hall⟩ := mem_ready.1 ht
    have hts : t < ops.size := (Array.getElem?_eq_some_iff.1 hot).1
    rcases Nat.lt_trichotomy t n with h | h | h
    · exact h
    · subst h
      have h1 := List.all_eq_true.1 hs i (List.mem_range.2 hi)
      obtain ⟨j, hj, hjb⟩ := List.any_eq_true.1 h1
      simp only [Bool.and_eq_true, decide_eq_true_eq] at hjb
      have hjn : j ≤ t := by have := List.mem_range.1 hj; omega
      obtain ⟨oj, hoj, e, he, heb, heo⟩ := Region.waitsFor_spec hjb.2
      by_cases hjt : j = t
      · subst hjt
        obtain rfl : oj = ot := Option.some.inj (hoj.symm.trans hot)
        have := hall e he heb
        rw [heo, getD_both hu] at this; cases this
      · refine ih (t - j) (by omega) j rfl (by omega) (getD_in (by rw [inv.size]; omega) ?_) t ht
        cases hl : listed.getD j false
        · rfl
        · have := inv.closed j oj hoj hl e he heb
          rw [heo, getD_both hu] at this; cases this
    · have h1 := List.all_eq_true.1 hc t (List.mem_range.2 hts)
      simp only [Bool.or_eq_true, decide_eq_true_eq] at h1
      rcases h1 with h1 | h1
      · omega
      · obtain ⟨j, hj, hjb⟩ := List.any_eq_true.1 h1
        simp only [Bool.and_eq_true, decide_eq_true_eq] at hjb
        obtain ⟨oj, hoj, e, he, heb, heo⟩ := Region.waitsFor_spec hjb.2
        obtain rfl : oj = ot := Option.some.inj (hoj.symm.trans hot)
        have h2 := hall e he heb
        have := List.mem_range.1 hj
        rw [heo, getD_both (inv.tail j hjb.1 (by omega))] at h2; cases h2

/-- Whatever order is picked, up to the neck. -/
def wpAnyC (P : Program) (md : Region.Mode) (ops : Array Oper) (n : Nat) (L : Array Bool → Kont) : Nat → Array Bool → Act → (World → Prop) → Prop
  | 0, listed, a, I => L listed a I
  | fuel + 1, listed, a, I => Region.ready md ops listed ≠ [] ∧ ∀ i ∈ Region.ready md ops listed, i < n ∧ mOp P ops true i (wpAnyC P md ops n L fuel (listed.setIfInBounds i true)) a I

theorem wpAny_of_C {n g : Nat} {L : Array Bool → Kont} {Q' : Exit → Act → World → Prop} (hL : ∀ listed a I w, I w → L listed a I → wpAny P md ops Q' g listed a w) :
    ∀ (f : Nat) (listed : Array Bool) (a : Act) (I : World → Prop) (w : World), StableI I → I w → wpAnyC P md ops n L f listed a I → wpAny P md ops Q' (f + g) listed a w
  | 0, listed, a, I, w, _, hw, h => by rw [Nat.zero_add]; exact hL _ _ _ _ hw h
  | f + 1, listed, a, I, w, hI, hw, h => by
    rw [show f + 1 + g = (f + g) + 1 by omega]
    exact ⟨fun h0 => absurd h0 h.1, fun i hi => wpOp_of_mOp hI hw (fun a' I' w' hI' hw' hk => wpAny_of_C hL f _ a' I' w' hI' hw' hk) (h.2 i hi).2⟩

theorem wpAnyC_first {n0 : Nat} {L : Array Bool → Kont} (hs : Region.sinkB md ops n0 = true) (hc : chain2 md ops n0 = true) (hL : ∀ listed a I, L listed a I → ∀ j ∈ Region.ready md ops listed, n0 ≤ j) {i : Nat} (hin : i < n0) {oi : Oper} {v : Value} (hi : ops[i]? = some oi) (hsel : ∀ (j : Nat) (o : Oper) cs b, ops[j]? = some o → o.op ≠ .select cs b) :
    ∀ (fuel : Nat) (listed : Array Bool) (a : Act) (I : World → Prop), HeadInv md ops n0 listed →
      (∀ j oj, ops[j]? = some oj → j ≠ i → listed.getD j true = false → (∀ e ∈ oj.after, Region.binds md e = true → e.on ≠ i) → oi.apart ops oj = true) →
      i ∈ Region.ready md ops listed → YM P ops oi v a I →
      wpAnyC P md ops n0 L fuel (listed.setIfInBounds i true) (a.put oi.dst v) I → wpAnyC P md ops n0 L (fuel + 1) listed a I := by
  intro fuel
  induction fuel with
  | zero =>
    intro listed a I inv _ hr hy H
    refine ⟨fun h => (by rw [h] at hr; cases hr), fun j hj => ⟨head_only hs hc inv _ i rfl hin (mem_ready.1 hr).1 j hj, ?_⟩⟩
    have hjn := head_only hs hc inv _ i rfl hin (mem_ready.1 hr).1 j hj
    by_cases hji : j = i
    · subst hji; exact hy.mOp hi H
    · have := hL _ _ _ H j (ready_mono hj hji)
      omega
  | succ fuel ih =>
    intro listed a I inv hfree hr hy H
    refine ⟨fun h => (by rw [h] at hr; cases hr), fun j hj => ⟨head_only hs hc inv _ i rfl hin (mem_ready.1 hr).1 j hj, ?_⟩⟩
    have hjn := head_only hs hc inv _ i rfl hin (mem_ready.1 hr).1 j hj
    by_cases hji : j = i
    · subst hji; exact hy.mOp hi H
    · have h1 := (H.2 j (ready_mono hj hji)).2
      obtain ⟨hjun, oj, hoj, hall⟩ := mem_ready.1 hj
      have h2 := mOp_put hoj (hfree j oj hoj hji hjun (not_waits hr hall)) (fun cs b => hsel i oi cs b hi) (fun cs b => hsel j oj cs b hoj) hy h1
      have hfree' : ∀ k ok, ops[k]? = some ok → k ≠ i → (listed.setIfInBounds j true).getD k true = false →
          (∀ e ∈ ok.after, Region.binds md e = true → e.on ≠ i) → oi.apart ops ok = true := fun k ok hk hki hun hno => by
        refine hfree k ok hk hki ?_ hno
        by_cases hjk : j = k
        · subst hjk; exact hjun
        · rw [getD_set_ne true hjk] at hun; exact hun
      refine mOp_mono id (fun a' I' h3 => ih (listed.setIfInBounds j true) a' I' (inv.set hj hjn) hfree' (ready_mono hr (Ne.symm hji)) h3.1 ?_) h2
      rw [Array.setIfInBounds_comm _ _ hji]
      exact h3.2

/-- An operation that makes a block may be taken first, if nothing else but such may come up ahead of it. -/
theorem wpAnyC_make {n0 : Nat} {L : Array Bool → Kont} (hs : Region.sinkB md ops n0 = true) (hc : chain2 md ops n0 = true) (hL : ∀ listed a I, L listed a I → ∀ j ∈ Region.ready md ops listed, n0 ≤ j) {i : Nat} (hin : i < n0) {oi : Oper} (hi : ops[i]? = some oi) (hm : isMake oi = true) (hsel : ∀ (j : Nat) (o : Oper) cs b, ops[j]? = some o → o.op ≠ .select cs b) {mk : Nat → Value} {obj : Obj} :
    ∀ (fuel n : Nat) (listed : Array Bool) (a : Act) (I : World → Prop), HeadInv md ops n0 listed →
      (∀ j oj, ops[j]? = some oj → j ≠ i → listed.getD j true = false → (∀ e ∈ oj.after, Region.binds md e = true → e.on ≠ i) → oi.apart ops oj = true) →
      onlyMakes md ops i n listed = true → i ∈ Region.ready md ops listed → Region.wanted oi (yielded ops a.tmps) = true → Make1 P oi a mk obj →
      (∀ g, wpAnyC P md ops n0 L fuel (listed.setIfInBounds i true) (a.put oi.dst (mk g)) fun w => I w ∧ w.heap[g]? = some obj) → wpAnyC P md ops n0 L (fuel + 1) listed a I := by
  intro fuel
  have own : ∀ (fuel : Nat) (listed : Array Bool) (a : Act) (I : World → Prop), Region.wanted oi (yielded ops a.tmps) = true → Make1 P oi a mk obj →
      (∀ g, wpAnyC P md ops n0 L fuel (listed.setIfInBounds i true) (a.put oi.dst (mk g)) fun w => I w ∧ w.heap[g]? = some obj) → mOp P ops true i (wpAnyC P md ops n0 L fuel (listed.setIfInBounds i true)) a I := by
    intro fuel listed a I hw hk H
    unfold mOp
    simp only [hi, hw, if_true, hm]
    exact ⟨mk, obj, hk, H⟩
  induction fuel with
  | zero =>
    intro n listed a I inv _ _ hr hw hk H
    refine ⟨fun h => (by rw [h] at hr; cases hr), fun j hj => ⟨head_only hs hc inv _ i rfl hin (mem_ready.1 hr).1 j hj, ?_⟩⟩
    have hjn := head_only hs hc inv _ i rfl hin (mem_ready.1 hr).1 j hj
    by_cases hji : j = i
    · subst hji; exact own _ _ _ _ hw hk H
    · have := hL _ _ _ (H 0) j (ready_mono hj hji)
      omega
  | succ fuel ih =>
    intro n listed a I inv hfree hom hr hw hk H
    refine ⟨fun h => (by rw [h] at hr; cases hr), fun j hj => ⟨head_only hs hc inv _ i rfl hin (mem_ready.1 hr).1 j hj, ?_⟩⟩
    have hjn := head_only hs hc inv _ i rfl hin (mem_ready.1 hr).1 j hj
    by_cases hji : j = i
    · subst hji; exact own _ _ _ _ hw hk H
    · obtain ⟨m, rfl⟩ : ∃ m, n = m + 1 := by
        cases n with
        | zero => cases hom
        | succ m => exact ⟨m, rfl⟩
      have hom' := List.all_eq_true.1 hom j hj
      obtain ⟨hjun, oj, hoj, hall⟩ := mem_ready.1 hj
      simp only [beq_iff_eq, hji, Bool.or_eq_true, false_or, hoj, Option.map_some, Option.getD_some, Bool.and_eq_true] at hom'
      obtain ⟨hmj, hom2⟩ := hom'
      have hap := hfree j oj hoj hji hjun (not_waits hr hall)
      obtain ⟨h1, h2, h3⟩ := Oper.apart_spec hap
      have hsi := fun cs b => hsel i oi cs b hi
      have hsj := fun cs b => hsel j oj cs b hoj
      have hfree' : ∀ k ok, ops[k]? = some ok → k ≠ i → (listed.setIfInBounds j true).getD k true = false →
          (∀ e ∈ ok.after, Region.binds md e = true → e.on ≠ i) → oi.apart ops ok = true := fun k ok hk hki hun hno => by
        refine hfree k ok hk hki ?_ hno
        by_cases hjk : j = k
        · subst hjk; exact hjun
        · rw [getD_set_ne true hjk] at hun; exact hun
      have on : ∀ (u : Value) (I' : World → Prop), (∀ g, wpAnyC P md ops n0 L fuel ((listed.setIfInBounds i true).setIfInBounds j true) ((a.put oi.dst (mk g)).put oj.dst u) fun w => I' w ∧ w.heap[g]? = some obj) →
          wpAnyC P md ops n0 L (fuel + 1) (listed.setIfInBounds j true) (a.put oj.dst u) I' := fun u I' hK => by
        refine ih m (listed.setIfInBounds j true) (a.put oj.dst u) I' (inv.set hj hjn) hfree' hom2 (ready_mono hr (Ne.symm hji)) ?_ ?_ fun g => ?_
        · rw [wanted_put oi a oj.dst u h3]; exact hw
        · unfold Make1 at *; rw [execOp_put oi hsi a oj.dst u h3]; exact hk
        · rw [Array.setIfInBounds_comm _ _ hji, ← Act.put_comm a (mk g) u h2]; exact hK g
      have H1 : ∀ g, mOp P ops true j (wpAnyC P md ops n0 L fuel ((listed.setIfInBounds i true).setIfInBounds j true)) (a.put oi.dst (mk g)) fun w => I w ∧ w.heap[g]? = some obj := fun g => ((H g).2 j (ready_mono hj hji)).2
      unfold mOp at H1 ⊢
      simp only [hoj, hmj, if_true] at H1 ⊢
      split
      · rename_i hwj
        have H2 : ∀ g, ∃ mk' obj', Make1 P oj (a.put oi.dst (mk g)) mk' obj' ∧ ∀ g', wpAnyC P md ops n0 L fuel ((listed.setIfInBounds i true).setIfInBounds j true) ((a.put oi.dst (mk g)).put oj.dst (mk' g')) fun w => (I w ∧ w.heap[g]? = some obj) ∧ w.heap[g']? = some obj' := fun g => by
          have := H1 g
          rwa [wanted_put oj a oi.dst (mk g) h1, if_pos hwj] at this
        have hmk : ∀ g mk' obj', Make1 P oj (a.put oi.dst (mk g)) mk' obj' → Make1 P oj a mk' obj' := fun g mk' obj' h => by
          unfold Make1 at *; rwa [execOp_put oj hsj a oi.dst (mk g) h1] at h
        obtain ⟨mkj, objj, k1, _⟩ := H2 0
        refine ⟨mkj, objj, hmk _ _ _ k1, fun g' => on _ _ fun g => ?_⟩
        obtain ⟨mk', obj', k1', k2⟩ := H2 g
        obtain ⟨rfl, rfl⟩ := make_same (hmk _ _ _ k1) (hmk _ _ _ k1')
        have e : (fun w : World => (I w ∧ w.heap[g']? = some obj') ∧ w.heap[g]? = some obj) = fun w => (I w ∧ w.heap[g]? = some obj) ∧ w.heap[g']? = some obj' := funext fun w => propext (and_right_comm)
        rw [e]
        exact k2 g'
      · rename_i hwj
        refine on _ _ fun g => ?_
        have := H1 g
        rwa [wanted_put oj a oi.dst (mk g) h1, if_neg hwj] at this

/-- The order may be chosen, and comes to the neck. -/
def orderC (md : Region.Mode) (ops : Array Oper) (n : Nat) (fin : Array Bool) : List (Nat × Bool) → Array Bool → Bool
  | [], listed => listed == fin && (Region.ready md ops listed).all fun j => decide (n ≤ j)
  | (i, gen) :: rest, listed => decide (i < n) && (Region.ready md ops listed).contains i && (if gen then Region.ready md ops listed == [i] else Region.free md ops listed i && (!((ops[i]?).map isMake).getD false || onlyMakes md ops i ops.size listed)) && orderC md ops n fin rest (listed.setIfInBounds i true)

/-- Where the neck stands. -/
def NeckL (md : Region.Mode) (ops : Array Oper) (n : Nat) (fin : Array Bool) (Q : Act → World → Prop) (listed : Array Bool) (a : Act) (I : World → Prop) : Prop :=
  (listed = fin ∧ ∀ j ∈ Region.ready md ops listed, n ≤ j) ∧ ∀ w, I w → Q a w

theorem wpAnyC_order {n : Nat} {fin : Array Bool} {Q : Act → World → Prop} (hsel : Region.noSelect ops = true) (hs : Region.sinkB md ops n = true) (hc : chain2 md ops n = true) : ∀ (l : List (Nat × Bool)) (listed : Array Bool) (a : Act) (I : World → Prop),
    HeadInv md ops n listed → orderC md ops n fin l listed = true → wpM P ops Q l a I → wpAnyC P md ops n (NeckL md ops n fin Q) l.length listed a I
  | [], _, _, _, _, hB, h => by
    simp only [orderC, Bool.and_eq_true, beq_iff_eq] at hB
    exact ⟨⟨hB.1, fun j hj => by simpa using List.all_eq_true.1 hB.2 j hj⟩, h⟩
  | (i, gen) :: rest, listed, a, I, inv, hB, h => by
    simp only [orderC, Bool.and_eq_true, decide_eq_true_eq] at hB
    obtain ⟨⟨⟨hin, hr⟩, hcc⟩, hB'⟩ := hB
    have hr : i ∈ Region.ready md ops listed := by simpa using hr
    obtain ⟨hun, oi, hi, _⟩ := mem_ready.1 hr
    have go := fun a' I' hK => wpAnyC_order (Q := Q) hsel hs hc rest (listed.setIfInBounds i true) a' I' (inv.set hr hin) hB' hK
    have hLL : ∀ listed a I, NeckL md ops n fin Q listed a I → ∀ j ∈ Region.ready md ops listed, n ≤ j := fun _ _ _ h => h.1.2
    cases gen with
    | true =>
      simp only [if_true, beq_iff_eq] at hcc
      refine ⟨fun h => (by rw [h] at hr; cases hr), fun j hj => ⟨head_only hs hc inv _ i rfl hin hun j hj, ?_⟩⟩
      rw [hcc] at hj
      obtain rfl := List.mem_singleton.1 hj
      exact mOp_mono id go h
    | false =>
      simp only [Bool.false_eq_true, if_false, Bool.and_eq_true, hi, Option.map_some, Option.getD_some, Bool.or_eq_true, Bool.not_eq_true'] at hcc
      obtain ⟨hf, hmk⟩ := hcc
      have hfree := Region.free_spec (md := md) hi hf
      change mOp P ops false i (wpM P ops Q rest) a I at h
      unfold mOp at h
      simp only [hi] at h
      split at h
      · rename_i hw
        split at h
        · rename_i hm
          obtain ⟨mk, obj, k1, k2⟩ := h
          rcases hmk with hmk | hmk
          · rw [hm] at hmk; cases hmk
          · exact wpAnyC_make hs hc hLL hin hi hm (Region.noSelect_spec hsel) rest.length ops.size listed a I inv hfree hmk hr hw k1 fun g => go _ _ (k2 g)
        · rename_i hm
          rcases h with ⟨v, k1, k2⟩ | ⟨hg, _⟩
          · exact wpAnyC_first hs hc hLL hin hi (Region.noSelect_spec hsel) rest.length listed a I inv hfree hr (.inl ⟨hw, by simpa using hm, k1⟩) (go _ _ k2)
          · cases hg
      · rename_i hw
        exact wpAnyC_first hs hc hLL hin hi (Region.noSelect_spec hsel) rest.length listed a I inv hfree hr (.inr ⟨by simpa using hw, rfl⟩) (go _ _ h)

def neckB (ops : Array Oper) (n : Nat) (fin : Array Bool) (l : List (Nat × Bool)) : Bool :=
  Region.noSelect ops && Region.sinkB .any ops n && chain2 .any ops n && decide (l.length = n) && decide (n < ops.size) && orderC .any ops n fin l (Array.replicate ops.size false)

/-- A region with a neck: what lies ahead, in an order of one's own choice; then whatever order there is from the neck on. -/
theorem wp_region_neck {id : Nat} {Q : Exit → Act → World → Prop} {a : Act} {w : World} (n : Nat) (fin : Array Bool) (l : List (Nat × Bool)) (I : World → Prop) (hm : P.follows .mixedOrders = true) (hB : neckB ops n fin l = true) (hI : StableI I) (hw : I w.drew)
    (h : Shut (wpM P ops (fun a' w' => wpAny P .any ops Q (ops.size - n) fin a' w') l a I)) : (Code.region id ops true).wp P Q a w := by
  simp only [neckB, Bool.and_eq_true, decide_eq_true_eq] at hB
  obtain ⟨⟨⟨⟨⟨hsel, hs⟩, hc⟩, hl⟩, hn⟩, ho⟩ := hB
  have inv0 : HeadInv .any ops n (Array.replicate ops.size false) :=
    ⟨by simp, fun j oj _ hl => (by rw [getD_replicate_false] at hl; cases hl), fun t _ ht => getD_in (by simpa using ht) (getD_replicate_false _ _)⟩
  have H := wpAnyC_order (P := P) (md := .any) hsel hs hc l _ a I inv0 ho h.out
  refine wp_region_any hm ?_
  have := wpAny_of_C (Q' := Q) (g := ops.size - n) (fun listed a' I' w' hw' hL => by
    obtain ⟨⟨e, _⟩, h2⟩ := hL
    rw [e]; exact h2 _ hw') _ _ _ _ _ hI hw H
  rw [hl, show n + (ops.size - n) = ops.size by omega] at this
  exact this

/-- The neck comes up alone. -/
theorem wpAny_neck {Q : Exit → Act → World → Prop} {f i : Nat} {listed : Array Bool} {a : Act} {w : World} {l tl : List Oper} {o : Oper} (hr : Region.ready md l.toArray listed = [i]) (ho : l.drop i = o :: tl) (hw : Region.wanted o (yielded l.toArray a.tmps) = true)
    (h : o.wp P a w (fun a' w' => wpAny P md l.toArray Q f (listed.setIfInBounds i true) a' w') Q) : wpAny P md l.toArray Q (f + 1) listed a w := by
  have ho := at_drop ho
  refine ⟨fun h0 => (by rw [hr] at h0; cases h0), fun j hj => ?_⟩
  rw [hr] at hj
  obtain rfl := List.mem_singleton.1 hj
  unfold wpOp
  simp only [ho, hw, if_true]
  exact .inl h
/-- What lies behind, in an order of one's own choice. -/
theorem wpAny_behind {Q : Exit → Act → World → Prop} {f : Nat} {listed : Array Bool} {a : Act} {w : World} (l : List (Nat × Bool)) (I : World → Prop) (hs : Region.noSelect ops = true) (hl : l.length = f) (hB : orderM md ops l listed = true) (hI : StableI I) (hw : I w)
    (h : Shut (wpM P ops (Q .normal) l a I)) : wpAny P md ops Q f listed a w := by
  have := wpAny_of_M (Q := Q .normal) (fun _ _ h => h) _ _ _ I _ hI hw (wpAnyM_order hs l _ a I hB h.out)
  rwa [hl] at this

end
end Go.Proofs.YtgifflfjhockaaaGreatDoor

namespace Go.Proofs.YtgifflfjhockaaaGreatDoor.S
open Go.RowKit W

theorem all_no {l : List Int} {p : Int → Bool} {k : Nat} (hk : k < l.length) (h : p l[k] = false) : l.all p = false :=
  List.all_eq_false.2 ⟨_, List.getElem_mem hk, by rw [h]; decide⟩
theorem all_step {l : List Int} {p : Int → Bool} {k : Nat} (hk : k < l.length) (h : (l.take k).all p = true) (h2 : p l[k] = true) : (l.take (k + 1)).all p = true := by
  rw [List.take_succ_eq_append_getElem hk, List.all_append, h]
  simp [h2]
theorem knownF_any (t : Int) (w : World) : Calls Tryz.prog 156 #[.int .i64 t] w fun e w' => e = .returned (.bool (knownB t)) ∧ Keep NoB w w' :=
  (known_any t w).mono fun _ _ ⟨he, hw⟩ => ⟨he, by rw [← hw]; exact Keep.refl _ _⟩
set_option maxHeartbeats 1000000 in
theorem heldF_any (t : Int) (w : World) : Calls Tryz.prog 112 #[.int .i64 t] w fun e w' => e = .returned (.bool (heldB t)) ∧ Keep NoB w w' := by
  have HK := Lib.hid (fun w => known_any t w)
  cases hk : knownB t
  · rw [hk] at HK
    have hR : heldB t = false := by rw [known_not] at hk; rw [held_not]; omega
    rw [hR]
    clear hk hR
    go_enter Tryz.func112, Tryz.ntmps112
    go_wp2_with (go_at_call 156; refine (HK.out _).mono ?_; rintro e w1 ⟨rfl, rfl⟩)
    go_ret
    exact ⟨rfl, Keep.refl _ _⟩
  · rw [hk] at HK
    by_cases h4 : t = 4
    · subst h4
      have hR : heldB 4 = false := by decide
      rw [hR]
      clear hk hR
      go_enter Tryz.func112, Tryz.ntmps112
      go_wp2_with (go_at_call 156; refine (HK.out _).mono ?_; rintro e w1 ⟨rfl, rfl⟩)
      go_ret
      exact ⟨rfl, Keep.refl _ _⟩
    · have hR : heldB t = true := by rw [known_iff] at hk; rw [held_iff]; omega
      have hq : (t != 4) = true := by rw [bne_iff_ne]; exact h4
      rw [hR]
      clear hk hR h4
      go_enter Tryz.func112, Tryz.ntmps112
      go_wp2_with (go_at_call 156; refine (HK.out _).mono ?_; rintro e w1 ⟨rfl, rfl⟩)
      go_ret
      exact ⟨rfl, Keep.refl _ _⟩

set_option maxRecDepth 100000 in
set_option maxHeartbeats 2000000 in
theorem allS_any (A : Option Addr) (l : List Int) (n c : Nat) (w : World) (hr : Rd w A (ivs l)) (hn : Hid (l.length = n)) (hm : n ≤ 9223372036854775807) (R : Bool) (hR : Hid (R = l.all heldB)) :
    Calls Tryz.prog 111 #[.slice A n c, .func (.func 112) #[] #[]] w fun e w' => e = .returned (.bool R) ∧ Keep NoB w w' := by
  go_enter Tryz.func111, Tryz.ntmps111
  go_wp2
  go_loopw [9] (fun i wr => ∃ k : Nat, k ≤ n ∧ i = .int .i64 k ∧ Hid ((l.take k).all heldB = true) ∧ Keep NoB w wr) (fun i _ => n - (intOf i).toNat)
  case atStart => exact ⟨0, Nat.zero_le _, rfl, rfl, Keep.refl _ _⟩
  case round =>
    obtain ⟨k, hk, rfl, ht, hK⟩ := hrel
    by_cases hlt : k < n
    · have hka : k < l.length := by rw [hn.out]; exact hlt
      obtain ⟨ga, oa, rfl, hca⟩ := rdI_at hr (by omega)
      have ca := hK.cell (hca k hka) id
      have HT := Lib.hid (fun h => all_step (p := heldB) hka ht.out h)
      have HN := Lib.hid (fun h => all_no (p := heldB) hka h)
      clear hca hr ht
      generalize l[k] = x at ca HT HN
      have HC := Lib.hid (fun w => heldF_any x w)
      cases hx : heldB x
      · rw [hx] at HC
        obtain rfl : R = false := by rw [hR.out]; exact HN.out hx
        clear hx HT HN hR
        go_wp2_with (go_at_call 112; refine (HC.out _).mono ?_; rintro e w3 ⟨rfl, k3⟩)
        go_ret
        exact ⟨rfl, keepN hK k3⟩
      · rw [hx] at HC
        have HV := Lib.hid (HT.out hx)
        clear hx HT HN hR
        go_wp2_with (go_at_call 112; refine (HC.out _).mono ?_; rintro e w3 ⟨rfl, k3⟩)
        go_roundw
        case rel => exact ⟨k + 1, by omega, by go_num, HV, keepN hK k3⟩
        case measure => simp [intOf]; omega
    · obtain rfl : R = true := by
        rw [hR.out]
        have e1 := ht.out
        rwa [List.take_of_length_le (by rw [hn.out]; omega)] at e1
      clear hR
      go_wp2
      go_ret
      exact ⟨rfl, hK⟩

set_option maxRecDepth 100000 in
set_option maxHeartbeats 2000000 in
theorem allK_any (A : Option Addr) (l : List Int) (n c : Nat) (w : World) (hr : Rd w A (ivs l)) (hn : Hid (l.length = n)) (hm : n ≤ 9223372036854775807) (R : Bool) (hR : Hid (R = l.all knownB)) :
    Calls Tryz.prog 165 #[.slice A n c, .func (.func 156) #[] #[]] w fun e w' => e = .returned (.bool R) ∧ Keep NoB w w' := by
  go_enter Tryz.func165, Tryz.ntmps165
  go_wp2
  go_loopw [9] (fun i wr => ∃ k : Nat, k ≤ n ∧ i = .int .i64 k ∧ Hid ((l.take k).all knownB = true) ∧ Keep NoB w wr) (fun i _ => n - (intOf i).toNat)
  case atStart => exact ⟨0, Nat.zero_le _, rfl, rfl, Keep.refl _ _⟩
  case round =>
    obtain ⟨k, hk, rfl, ht, hK⟩ := hrel
    by_cases hlt : k < n
    · have hka : k < l.length := by rw [hn.out]; exact hlt
      obtain ⟨ga, oa, rfl, hca⟩ := rdI_at hr (by omega)
      have ca := hK.cell (hca k hka) id
      have HT := Lib.hid (fun h => all_step (p := knownB) hka ht.out h)
      have HN := Lib.hid (fun h => all_no (p := knownB) hka h)
      clear hca hr ht
      generalize l[k] = x at ca HT HN
      have HC := Lib.hid (fun w => knownF_any x w)
      cases hx : knownB x
      · rw [hx] at HC
        obtain rfl : R = false := by rw [hR.out]; exact HN.out hx
        clear hx HT HN hR
        go_wp2_with (go_at_call 156; refine (HC.out _).mono ?_; rintro e w3 ⟨rfl, k3⟩)
        go_ret
        exact ⟨rfl, keepN hK k3⟩
      · rw [hx] at HC
        have HV := Lib.hid (HT.out hx)
        clear hx HT HN hR
        go_wp2_with (go_at_call 156; refine (HC.out _).mono ?_; rintro e w3 ⟨rfl, k3⟩)
        go_roundw
        case rel => exact ⟨k + 1, by omega, by go_num, HV, keepN hK k3⟩
        case measure => simp [intOf]; omega
    · obtain rfl : R = true := by
        rw [hR.out]
        have e1 := ht.out
        rwa [List.take_of_length_le (by rw [hn.out]; omega)] at e1
      clear hR
      go_wp2
      go_ret
      exact ⟨rfl, hK⟩

set_option maxRecDepth 100000 in
set_option maxHeartbeats 2000000 in
theorem allH_any (A : Option Addr) (l : List Int) (n c : Nat) (w : World) (hr : Rd w A (ivs l)) (hn : Hid (l.length = n)) (hm : n ≤ 9223372036854775807) (R : Bool) (hR : Hid (R = l.all heldB)) :
    Calls Tryz.prog 165 #[.slice A n c, .func (.func 112) #[] #[]] w fun e w' => e = .returned (.bool R) ∧ Keep NoB w w' := by
  go_enter Tryz.func165, Tryz.ntmps165
  go_wp2
  go_loopw [9] (fun i wr => ∃ k : Nat, k ≤ n ∧ i = .int .i64 k ∧ Hid ((l.take k).all heldB = true) ∧ Keep NoB w wr) (fun i _ => n - (intOf i).toNat)
  case atStart => exact ⟨0, Nat.zero_le _, rfl, rfl, Keep.refl _ _⟩
  case round =>
    obtain ⟨k, hk, rfl, ht, hK⟩ := hrel
    by_cases hlt : k < n
    · have hka : k < l.length := by rw [hn.out]; exact hlt
      obtain ⟨ga, oa, rfl, hca⟩ := rdI_at hr (by omega)
      have ca := hK.cell (hca k hka) id
      have HT := Lib.hid (fun h => all_step (p := heldB) hka ht.out h)
      have HN := Lib.hid (fun h => all_no (p := heldB) hka h)
      clear hca hr ht
      generalize l[k] = x at ca HT HN
      have HC := Lib.hid (fun w => heldF_any x w)
      cases hx : heldB x
      · rw [hx] at HC
        obtain rfl : R = false := by rw [hR.out]; exact HN.out hx
        clear hx HT HN hR
        go_wp2_with (go_at_call 112; refine (HC.out _).mono ?_; rintro e w3 ⟨rfl, k3⟩)
        go_ret
        exact ⟨rfl, keepN hK k3⟩
      · rw [hx] at HC
        have HV := Lib.hid (HT.out hx)
        clear hx HT HN hR
        go_wp2_with (go_at_call 112; refine (HC.out _).mono ?_; rintro e w3 ⟨rfl, k3⟩)
        go_roundw
        case rel => exact ⟨k + 1, by omega, by go_num, HV, keepN hK k3⟩
        case measure => simp [intOf]; omega
    · obtain rfl : R = true := by
        rw [hR.out]
        have e1 := ht.out
        rwa [List.take_of_length_le (by rw [hn.out]; omega)] at e1
      clear hR
      go_wp2
      go_ret
      exact ⟨rfl, hK⟩

end Go.Proofs.YtgifflfjhockaaaGreatDoor.S

namespace Go.Proofs.YtgifflfjhockaaaGreatDoor.S
open Go.RowKit W

theorem blk2 {w : World} {g : Nat} {t : TypeId} {a0 a1 : Value} (h : Blk w g t #[a0, a1]) : w.cell? ⟨g, 0, none⟩ = some a0 ∧ w.cell? ⟨g, 1, none⟩ = some a1 := ⟨h.cell 0, h.cell 1⟩
theorem okS_len {l : List Int} (h : ¬ (1 ≤ l.length ∧ l.length ≤ 16)) : okS l = false := by unfold okS; rw [decide_eq_false h]; rfl
theorem okS_all {l : List Int} (h : l.all heldB = false) : okS l = false := by unfold okS; rw [h, Bool.and_false]
theorem okS_mk {l : List Int} (h : 1 ≤ l.length ∧ l.length ≤ 16) (h2 : l.all heldB = true) : okS l = true := (okS_iff l).2 ⟨h, h2⟩
theorem okG_len {a r : List Int} (h : ¬ (a.length + r.length ≤ 64)) : okG a r = false := by unfold okG; rw [decide_eq_false h]; rfl
theorem okG_args {a r : List Int} (h : a.all knownB = false) : okG a r = false := by unfold okG; rw [h, Bool.false_and, Bool.and_false]
theorem okG_res {a r : List Int} (h : r.all heldB = false) : okG a r = false := by unfold okG; rw [h, Bool.and_false, Bool.and_false]
theorem okG_mk {a r : List Int} (h : a.length + r.length ≤ 64) (h2 : a.all knownB = true) (h3 : r.all heldB = true) : okG a r = true := (okG_iff a r).2 ⟨h, h2, h3⟩
set_option maxHeartbeats 400000 in
theorem size_any (n : Nat) (h : n ≤ 1000) (w : World) : Calls Tryz.prog 157 #[.int .i64 n] w fun e w' => e = .returned (.int .i64 (sz n : Nat)) ∧ w = w' := by
  have hz : sz n ≤ 1000 := by unfold sz; omega
  have hq : ((n : Int) + 4 - 1).tdiv 4 = ((sz n : Nat) : Int) := by unfold sz; rw [Int.tdiv_eq_ediv_of_nonneg (by omega)]; omega
  go_enter Tryz.func157, Tryz.ntmps157
  go_wp2
  go_ret
  exact ⟨rfl, rfl⟩

set_option maxRecDepth 100000 in
set_option maxHeartbeats 2000000 in
theorem chkS_any (A : Option Addr) (l : List Int) (n c : Nat) (w : World) (hr : Rd w A (ivs l)) (hn : Hid (l.length = n)) (hm : n ≤ 9223372036854775807) (R : Int) (hR : Hid (chkS l = R)) :
    Calls Tryz.prog 72 #[.slice A n c] w fun e w' => e = .returned (.int .i64 R) ∧ Keep NoB w w' := by
  by_cases h0 : n = 0
  · subst h0
    obtain rfl : 60 = R := by rw [← hR.out]; exact (chkS_no (okS_len (by rw [hn.out]; omega))).symm
    go_enter Tryz.func72, Tryz.ntmps72
    go_wp2
    go_ret
    exact ⟨rfl, Keep.refl _ _⟩
  have hq1 : ((n : Int) == 0) = false := by rw [beq_eq_false_iff_ne]; omega
  by_cases h1 : 16 < n
  · obtain rfl : 60 = R := by rw [← hR.out]; exact (chkS_no (okS_len (by rw [hn.out]; omega))).symm
    clear hR h0
    go_enter Tryz.func72, Tryz.ntmps72
    go_wp2
    go_ret
    exact ⟨rfl, Keep.refl _ _⟩
  have HC0 := Lib.hid (fun w hr (R : Bool) hR => allS_any A l n c w hr hn hm R hR)
  cases hh : l.all heldB
  · obtain rfl : 60 = R := by rw [← hR.out]; exact (chkS_no (okS_all hh)).symm
    have HC := Lib.hid (fun w hr => HC0.out w hr _ hh.symm)
    clear hh hR HC0 h0
    go_enter Tryz.func72, Tryz.ntmps72
    go_wp2_with (go_at_call 111; refine (HC.out _ hr).mono ?_; rintro e w1 ⟨rfl, k1⟩)
    go_ret
    exact ⟨rfl, k1⟩
  · obtain rfl : 0 = R := by rw [← hR.out]; exact (chkS_ok (okS_mk (by rw [hn.out]; omega) hh)).symm
    have HC := Lib.hid (fun w hr => HC0.out w hr _ hh.symm)
    clear hh hR HC0 h0
    go_enter Tryz.func72, Tryz.ntmps72
    go_wp2_with (go_at_call 111; refine (HC.out _ hr).mono ?_; rintro e w1 ⟨rfl, k1⟩)
    go_ret
    exact ⟨rfl, k1⟩

set_option maxRecDepth 100000 in
set_option maxHeartbeats 4000000 in
theorem chkG_any (A : Option Addr) (a : List Int) (n c : Nat) (B : Option Addr) (r : List Int) (m d : Nat) (w : World) (ha : Rd w A (ivs a)) (hr : Rd w B (ivs r)) (hn : Hid (a.length = n)) (hm : Hid (r.length = m)) (hn6 : n ≤ 4611686018427387903) (hm6 : m ≤ 4611686018427387903) (R : Int) (hR : Hid (chkG a r = R)) :
    Calls Tryz.prog 122 #[.agg #[.slice A n c, .slice B m d]] w fun e w' => e = .returned (.int .i64 R) ∧ Keep NoB w w' := by
  have bx := Blk.new w 57 #[.slice A n c, .slice B m d]
  have k0 := (Keep.refl NoB w).alloc (.cells #[.slice A n c, .slice B m d] 57)
  by_cases h1 : 64 < n + m
  · obtain rfl : 61 = R := by rw [← hR.out]; exact (chkG_no (okG_len (by rw [hn.out, hm.out]; omega))).symm
    have hq : (64 : Int) < (n : Int) + (m : Int) := by omega
    clear hR
    go_enter Tryz.func122, Tryz.ntmps122
    go_wp2
    go_ret
    exact ⟨rfl, k0⟩
  have hq : ¬ (64 : Int) < (n : Int) + (m : Int) := by omega
  have HA := Lib.hid (fun w hr (R : Bool) hR => allK_any A a n c w hr hn (by omega) R hR)
  have HB := Lib.hid (fun w hr (R : Bool) hR => allH_any B r m d w hr hm (by omega) R hR)
  cases h2 : a.all knownB
  · obtain rfl : 61 = R := by rw [← hR.out]; exact (chkG_no (okG_args h2)).symm
    have HA2 := Lib.hid (fun w hr => HA.out w hr _ h2.symm)
    clear h2 hR HA HB
    go_enter Tryz.func122, Tryz.ntmps122
    go_wp2_with (go_at_call 165; refine (HA2.out _ (ha.keepN k0)).mono ?_; rintro e w1 ⟨rfl, k1⟩)
    go_ret
    exact ⟨rfl, keepN k0 k1⟩
  have HA2 := Lib.hid (fun w hr => HA.out w hr _ h2.symm)
  cases h3 : r.all heldB
  · obtain rfl : 61 = R := by rw [← hR.out]; exact (chkG_no (okG_res h3)).symm
    have HB2 := Lib.hid (fun w hr => HB.out w hr _ h3.symm)
    clear h2 h3 hR HA HB
    go_enter Tryz.func122, Tryz.ntmps122
    go_wp2_with fail
    refine (HA2.out _ (ha.keepN k0)).mono ?_
    rintro e w1 ⟨rfl, k1⟩
    obtain ⟨c0, c1⟩ := blk2 (bx.keep k1 id)
    have hr1 := (hr.keepN k0).keepN k1
    go_wp2_with fail
    refine (HB2.out _ hr1).mono ?_
    rintro e w2 ⟨rfl, k2⟩
    go_wp2
    go_ret
    exact ⟨rfl, keepN (keepN k0 k1) k2⟩
  · obtain rfl : 0 = R := by rw [← hR.out]; exact (chkG_ok (okG_mk (by rw [hn.out, hm.out]; omega) h2 h3)).symm
    have HB2 := Lib.hid (fun w hr => HB.out w hr _ h3.symm)
    clear h2 h3 hR HA HB
    go_enter Tryz.func122, Tryz.ntmps122
    go_wp2_with fail
    refine (HA2.out _ (ha.keepN k0)).mono ?_
    rintro e w1 ⟨rfl, k1⟩
    obtain ⟨c0, c1⟩ := blk2 (bx.keep k1 id)
    have hr1 := (hr.keepN k0).keepN k1
    go_wp2_with fail
    refine (HB2.out _ hr1).mono ?_
    rintro e w2 ⟨rfl, k2⟩
    go_wp2
    go_ret
    exact ⟨rfl, keepN (keepN k0 k1) k2⟩

set_option maxRecDepth 100000 in
set_option maxHeartbeats 2000000 in
theorem equal_any (A B : Option Addr) (la lb : List Int) (n m c d : Nat) (w : World) (ha : Rd w A (ivs la)) (hb : Rd w B (ivs lb)) (hn : Hid (la.length = n)) (hm : Hid (lb.length = m))
    (h1 : n ≤ 9223372036854775807) (h2 : m ≤ 9223372036854775807) (R : Bool) (hR : Hid (R = decide (la = lb))) :
    Calls Tryz.prog 106 #[.slice A n c, .slice B m d] w fun e w' => e = .returned (.bool R) ∧ Keep NoB w w' := by
  by_cases hnm : n = m
  · subst hnm
    go_enter Tryz.func106, Tryz.ntmps106
    go_wp2
    go_loopw [13] (fun i wr => ∃ k : Nat, k ≤ n ∧ i = .int .i64 k ∧ Hid (la.take k = lb.take k) ∧ Keep NoB w wr) (fun i _ => n - (intOf i).toNat)
    case atStart => exact ⟨0, Nat.zero_le _, rfl, rfl, Keep.refl _ _⟩
    case round =>
      obtain ⟨k, hk, rfl, ht, hK⟩ := hrel
      by_cases hlt : k < n
      · have hka : k < la.length := by rw [hn.out]; exact hlt
        have hkb : k < lb.length := by rw [hm.out]; exact hlt
        obtain ⟨ga, oa, rfl, hca⟩ := rdI_at ha (by omega)
        obtain ⟨gb, ob, rfl, hcb⟩ := rdI_at hb (by omega)
        have ca := hK.cell (hca k hka) id
        have cb := hK.cell (hcb k hkb) id
        have HT := Lib.hid (show la.take (k + 1) = la.take k ++ [la[k]] from List.take_succ_eq_append_getElem hka)
        have HU := Lib.hid (show lb.take (k + 1) = lb.take k ++ [lb[k]] from List.take_succ_eq_append_getElem hkb)
        clear hca hcb
        by_cases he : la[k] = lb[k]
        · have HV : Hid (la.take (k + 1) = lb.take (k + 1)) := by show _ = _; rw [HT.out, HU.out, ht.out, he]
          rw [he] at ca
          clear he HT HU ha hb
          generalize lb[k] = y at ca cb
          go_wp2
          go_quiet (fail)
          go_wp2
          go_roundw
          case rel => exact ⟨k + 1, by omega, by go_num, HV, hK.drewN _⟩
          case measure => simp [intOf]; omega
        · have hf : R = false := by
            rw [hR.out, decide_eq_false_iff_not]
            intro e
            exact he (by simp [e])
          subst hf
          clear HT HU ha hb
          generalize la[k] = x at ca he
          generalize lb[k] = y at cb he
          have hne : (x != y) = true := by rw [bne_iff_ne]; exact he
          clear he
          go_wp2
          go_quiet (fail)
          go_wp2
          go_ret
          exact ⟨rfl, hK.drewN _⟩
      · have hf : R = true := by
          rw [hR.out, decide_eq_true_iff]
          have e1 := ht.out
          rwa [List.take_of_length_le (by rw [hn.out]; omega), List.take_of_length_le (by rw [hm.out]; omega)] at e1
        subst hf
        go_wp2
        go_ret
        exact ⟨rfl, hK⟩
  · have hf : R = false := by
      rw [hR.out, decide_eq_false_iff_not]
      intro e
      exact hnm (by rw [← hn.out, ← hm.out, e])
    subst hf
    have hne : ((n : Int) != (m : Int)) = true := by rw [bne_iff_ne]; omega
    clear hnm
    go_enter Tryz.func106, Tryz.ntmps106
    go_wp2
    go_ret
    exact ⟨rfl, Keep.refl _ _⟩

set_option maxRecDepth 100000 in
set_option maxHeartbeats 4000000 in
theorem same_any (A1 : Option Addr) (a1 : List Int) (n1 c1 : Nat) (B1 : Option Addr) (r1 : List Int) (m1 d1 : Nat) (A2 : Option Addr) (a2 : List Int) (n2 c2 : Nat) (B2 : Option Addr) (r2 : List Int) (m2 d2 : Nat) (w : World)
    (ha1 : Rd w A1 (ivs a1)) (hr1 : Rd w B1 (ivs r1)) (ha2 : Rd w A2 (ivs a2)) (hr2 : Rd w B2 (ivs r2)) (hn1 : Hid (a1.length = n1)) (hm1 : Hid (r1.length = m1)) (hn2 : Hid (a2.length = n2)) (hm2 : Hid (r2.length = m2))
    (qn1 : n1 ≤ 9223372036854775807) (qm1 : m1 ≤ 9223372036854775807) (qn2 : n2 ≤ 9223372036854775807) (qm2 : m2 ≤ 9223372036854775807) (R : Bool) (hR : Hid (R = decide (a1 = a2 ∧ r1 = r2))) :
    Calls Tryz.prog 105 #[.agg #[.slice A1 n1 c1, .slice B1 m1 d1], .agg #[.slice A2 n2 c2, .slice B2 m2 d2]] w fun e w' => e = .returned (.bool R) ∧ Keep NoB w w' := by
  have bx := (Blk.new w 57 #[.slice A1 n1 c1, .slice B1 m1 d1]).alloc (.cells #[.slice A2 n2 c2, .slice B2 m2 d2] 57)
  have by2 := Blk.new (w.alloc (.cells #[.slice A1 n1 c1, .slice B1 m1 d1] 57)) 57 #[.slice A2 n2 c2, .slice B2 m2 d2]
  have k0 := ((Keep.refl NoB w).alloc (.cells #[.slice A1 n1 c1, .slice B1 m1 d1] 57)).alloc (.cells #[.slice A2 n2 c2, .slice B2 m2 d2] 57)
  rw [World.size_alloc] at by2
  have HA := Lib.hid (fun w h h' (R : Bool) hR => equal_any A1 A2 a1 a2 n1 n2 c1 c2 w h h' hn1 hn2 qn1 qn2 R hR)
  have HB := Lib.hid (fun w h h' (R : Bool) hR => equal_any B1 B2 r1 r2 m1 m2 d1 d2 w h h' hm1 hm2 qm1 qm2 R hR)
  by_cases q1 : a1 = a2
  by_cases q2 : r1 = r2
  · skip
    have HA2 := Lib.hid (fun w h h' => HA.out w h h' true (show _ = _ from (decide_eq_true q1).symm))
    have HB2 := Lib.hid (fun w h h' => HB.out w h h' true (show _ = _ from (decide_eq_true q2).symm))
    obtain rfl : R = true := by rw [hR.out, decide_eq_true_iff]; exact ⟨q1, q2⟩
    clear HA HB hR
    go_enter Tryz.func105, Tryz.ntmps105
    go_wp2_with fail
    refine (HA2.out _ (ha1.keepN k0) (ha2.keepN k0)).mono ?_
    rintro e w1 ⟨rfl, k1⟩
    obtain ⟨x0, x1⟩ := blk2 (bx.keep k1 id)
    obtain ⟨y0, y1⟩ := blk2 (by2.keep k1 id)
    go_wp2_with fail
    refine (HB2.out _ ((hr1.keepN k0).keepN k1) ((hr2.keepN k0).keepN k1)).mono ?_
    rintro e w2 ⟨rfl, k2⟩
    go_wp2
    go_ret
    exact ⟨rfl, keepN (keepN k0 k1) k2⟩
  · skip
    have HA2 := Lib.hid (fun w h h' => HA.out w h h' true (show _ = _ from (decide_eq_true q1).symm))
    have HB2 := Lib.hid (fun w h h' => HB.out w h h' false (show _ = _ from (decide_eq_false q2).symm))
    obtain rfl : R = false := by rw [hR.out, decide_eq_false_iff_not]; exact fun h => q2 h.2
    clear HA HB hR
    go_enter Tryz.func105, Tryz.ntmps105
    go_wp2_with fail
    refine (HA2.out _ (ha1.keepN k0) (ha2.keepN k0)).mono ?_
    rintro e w1 ⟨rfl, k1⟩
    obtain ⟨x0, x1⟩ := blk2 (bx.keep k1 id)
    obtain ⟨y0, y1⟩ := blk2 (by2.keep k1 id)
    go_wp2_with fail
    refine (HB2.out _ ((hr1.keepN k0).keepN k1) ((hr2.keepN k0).keepN k1)).mono ?_
    rintro e w2 ⟨rfl, k2⟩
    go_wp2
    go_ret
    exact ⟨rfl, keepN (keepN k0 k1) k2⟩
  · skip
    have HA2 := Lib.hid (fun w h h' => HA.out w h h' false (show _ = _ from (decide_eq_false q1).symm))
    obtain rfl : R = false := by rw [hR.out, decide_eq_false_iff_not]; exact fun h => q1 h.1
    clear HA HB hR
    go_enter Tryz.func105, Tryz.ntmps105
    go_wp2_with fail
    refine (HA2.out _ (ha1.keepN k0) (ha2.keepN k0)).mono ?_
    rintro e w1 ⟨rfl, k1⟩
    go_wp2
    go_ret
    exact ⟨rfl, keepN k0 k1⟩

end Go.Proofs.YtgifflfjhockaaaGreatDoor.S
