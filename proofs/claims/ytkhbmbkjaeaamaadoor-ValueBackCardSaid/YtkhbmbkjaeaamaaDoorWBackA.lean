/-
  ValueBack's walk, its first half, a piece: two values of one type have the same text just if they are the same (region 9), and the facts that part the cases. Conditions: none.
-/
import Derived.Test.YtkhbmbkjaeaamaaDoorWBack
import Derived.Test.YtkhbmbkjaeaamaaDoorWKept
namespace Go.Proofs.YtkhbmbkjaeaamaaDoor
open Go.RowKit

/-- What is read of a value's own text. -/
theorem r_show {t n : Int} (hn : I64 n) (ho : okB t n = true) (h4 : t = 4 → n = 0) : rT t (showL t n) = t ∧ rN t (showL t n) = n ∧ rE t (showL t n) = 0 :=
  r_some (ok_known ho) (rd_show hn ho h4)
theorem r_amp : rT 4 [38] = 0 ∧ rN 4 [38] = 0 ∧ rE 4 [38] = 21 := by decide +kernel
theorem show_short {t n : Int} (hn : I64 n) : (str (showL t n)).size ≤ 281474976710656 := by
  show (showL t n).toArray.size ≤ _
  rw [List.size_toArray]
  unfold showL
  split
  · simp
  · split
    · simp
    · split
      · simp
      · have h1 : (sgn t).length ≤ 1 := by unfold sgn; split <;> (try split) <;> (try split) <;> simp
        have h2 : (Lib.itoa (n - off t)).length ≤ 100 := by
          unfold I64 at hn
          have ho : off t ≤ 1 ∧ 0 ≤ off t := by unfold off; split <;> omega
          have hlen : ∀ u : Nat, u < 100000000000000000000 → (Lib.decDigits u).length ≤ 99 := by
            intro u hu
            rcases Nat.lt_or_ge u 10000000000000000000 with h | h
            · have := dec_len u h; omega
            · have e : Lib.decDigits u = Lib.decDigits (u / 10) ++ [UInt8.ofNat (48 + u % 10)] := by
                rw [Lib.decDigits, dif_neg (by omega)]
              have := dec_len (u / 10) (by omega)
              rw [e, List.length_append]; simp; omega
          by_cases h : n - off t < 0
          · rw [itoa_minus h]
            have := hlen (n - off t).natAbs (by omega)
            simp; omega
          · rw [itoa_pos (by omega)]
            have := hlen (n - off t).toNat (by omega)
            omega
        rw [List.length_append]; omega

end Go.Proofs.YtkhbmbkjaeaamaaDoor
