/- The digest as numbers: a step, a block, what stands behind the bytes, the digest of a list of bytes; and that the digest of bytes does not hang on how they come. -/
import Derived.WalkKit
namespace Go.Proofs.YtnfklhebcloolaaDoor.mdm

def K : List Nat := [3614090360, 3905402710, 606105819, 3250441966, 4118548399, 1200080426, 2821735955, 4249261313,
  1770035416, 2336552879, 4294925233, 2304563134, 1804603682, 4254626195, 2792965006, 1236535329,
  4129170786, 3225465664, 643717713, 3921069994, 3593408605, 38016083, 3634488961, 3889429448,
  568446438, 3275163606, 4107603335, 1163531501, 2850285829, 4243563512, 1735328473, 2368359562,
  4294588738, 2272392833, 1839030562, 4259657740, 2763975236, 1272893353, 4139469664, 3200236656,
  681279174, 3936430074, 3572445317, 76029189, 3654602809, 3873151461, 530742520, 3299628645,
  4096336452, 1126891415, 2878612391, 4237533241, 1700485571, 2399980690, 4293915773, 2240044497,
  1873313359, 4264355552, 2734768916, 1309151649, 4149444226, 3174756917, 718787259, 3951481745]
def R : List Nat := [7, 12, 17, 22, 5, 9, 14, 20, 4, 11, 16, 23, 6, 10, 15, 21]
def rolls (i : Nat) : Nat := R.getD (4 * (i / 16) + i % 4) 0
def F (i b c d : Nat) : Nat :=
  if i < 16 then (b &&& c) ||| ((4294967295 - b) &&& d) else if i < 32 then (d &&& b) ||| ((4294967295 - d) &&& c)
  else if i < 48 then b ^^^ c ^^^ d else c ^^^ (b ||| (4294967295 - d))
def G (i : Nat) : Nat := if i < 16 then i else if i < 32 then (5 * i + 1) % 16 else if i < 48 then (3 * i + 5) % 16 else 7 * i % 16
def rol (n k : Nat) : Nat := n * 2 ^ k % 4294967296 + n / 2 ^ (32 - k)
/-- four numbers -/
structure Q4 where
  a : Nat
  b : Nat
  c : Nat
  d : Nat
def Q4.ok (s : Q4) : Prop := s.a < 4294967296 ∧ s.b < 4294967296 ∧ s.c < 4294967296 ∧ s.d < 4294967296
/-- the number j of a block -/
def word (l : List Int) (j : Nat) : Nat := (l.getD (4 * j) 0).toNat + 256 * (l.getD (4 * j + 1) 0).toNat + 65536 * (l.getD (4 * j + 2) 0).toNat + 16777216 * (l.getD (4 * j + 3) 0).toNat
def mix (l : List Int) (i : Nat) (s : Q4) : Nat := (F i s.b s.c s.d + s.a + K.getD i 0 + word l (G i)) % 4294967296
def stp (l : List Int) (i : Nat) (s : Q4) : Q4 := ⟨s.d, (s.b + rol (mix l i s) (rolls i)) % 4294967296, s.b, s.c⟩
def rnds (l : List Int) (s : Q4) : Nat → Q4
  | 0 => s
  | i + 1 => stp l i (rnds l s i)
def add4 (s t : Q4) : Q4 := ⟨(s.a + t.a) % 4294967296, (s.b + t.b) % 4294967296, (s.c + t.c) % 4294967296, (s.d + t.d) % 4294967296⟩
def blk (s : Q4) (l : List Int) : Q4 := add4 (rnds l s 64) s
/-- all whole blocks, one behind the other -/
def blks (s : Q4) : Nat → List Int → Q4
  | 0, _ => s
  | n + 1, l => blks (blk s (l.take 64)) n (l.drop 64)
def start : Q4 := ⟨1732584193, 4023233417, 2562383102, 271733878⟩
def leB : Nat → Nat → List Int
  | 0, _ => []
  | k + 1, n => ((n % 256 : Nat) : Int) :: leB k (n / 256)
/-- how many zeros stand behind n bytes and 128 -/
def zeros (n : Nat) : Nat := (119 - n % 64) % 64
def pad (l : List Int) : List Int := l ++ [128] ++ List.replicate (zeros l.length) 0 ++ leB 8 (8 * l.length)
def dig (s : Q4) : List Int := leB 4 s.a ++ leB 4 s.b ++ leB 4 s.c ++ leB 4 s.d
def md5 (l : List Int) : List Int := dig (blks start ((pad l).length / 64) (pad l))

theorem leB_len (k : Nat) : ∀ n, (leB k n).length = k := by
  induction k with
  | zero => intro n; rfl
  | succ k ih => intro n; simp [leB, ih]
theorem pad_len (l : List Int) : (pad l).length = l.length + zeros l.length + 9 := by simp [pad, leB_len]; omega
theorem pad_mod (l : List Int) : (pad l).length % 64 = 0 := by rw [pad_len]; unfold zeros; omega
theorem blks_add (m : Nat) : ∀ (n : Nat) (s : Q4) (l : List Int), blks s (m + n) l = blks (blks s m l) n (l.drop (64 * m)) := by
  induction m with
  | zero => intro n s l; simp [blks]
  | succ m ih =>
    intro n s l
    rw [show m + 1 + n = (m + n) + 1 by omega]
    simp only [blks]
    rw [ih, List.drop_drop, show 64 + 64 * m = 64 * (m + 1) by omega]
theorem blks_take (n : Nat) : ∀ (s : Q4) (l m : List Int), 64 * n ≤ l.length → blks s n (l ++ m) = blks s n l := by
  induction n with
  | zero => intro s l m _; rfl
  | succ n ih =>
    intro s l m h
    simp only [blks]
    rw [List.take_append_of_le_length (by omega), List.drop_append_of_le_length (by omega), ih _ _ _ (by rw [List.length_drop]; omega)]
theorem blks_snoc (n : Nat) (s : Q4) (l : List Int) : blks s (n + 1) l = blk (blks s n l) ((l.drop (64 * n)).take 64) := by
  rw [blks_add n 1 s l]; rfl
theorem F_lt (i b c d : Nat) (hb : b < 4294967296) (hc : c < 4294967296) (hd : d < 4294967296) : F i b c d < 4294967296 := by
  have e : (4294967296 : Nat) = 2 ^ 32 := by decide
  have n1 : 4294967295 - b < 2 ^ 32 := by omega
  have n2 : 4294967295 - d < 2 ^ 32 := by omega
  rw [e] at *
  unfold F
  split
  · exact Nat.or_lt_two_pow (Nat.and_lt_two_pow _ hc) (Nat.and_lt_two_pow _ hd)
  · split
    · exact Nat.or_lt_two_pow (Nat.and_lt_two_pow _ hb) (Nat.and_lt_two_pow _ hc)
    · split
      · exact Nat.xor_lt_two_pow (Nat.xor_lt_two_pow hb hc) hd
      · exact Nat.xor_lt_two_pow hc (Nat.or_lt_two_pow hb n2)
theorem stp_ok {l : List Int} {i : Nat} {s : Q4} (h : s.ok) : (stp l i s).ok := ⟨h.2.2.2, Nat.mod_lt _ (by decide), h.2.1, h.2.2.1⟩
theorem rnds_ok {l : List Int} {s : Q4} (h : s.ok) : ∀ i, (rnds l s i).ok
  | 0 => h
  | i + 1 => stp_ok (rnds_ok h i)
theorem add_ok (s t : Q4) : (add4 s t).ok := ⟨Nat.mod_lt _ (by decide), Nat.mod_lt _ (by decide), Nat.mod_lt _ (by decide), Nat.mod_lt _ (by decide)⟩
theorem start_ok : start.ok := by unfold Q4.ok start; decide
theorem blks_ok (n : Nat) : ∀ (s : Q4) (l : List Int), s.ok → (blks s n l).ok := by
  induction n with
  | zero => intro s l h; exact h
  | succ n ih => intro s l _; exact ih _ _ (add_ok _ _)
theorem G_lt (i : Nat) (_ : i < 64) : G i < 16 := by unfold G; split; omega; split; omega; split <;> omega
theorem word_lt (l : List Int) (hb : ∀ x ∈ l, 0 ≤ x ∧ x ≤ 255) (j : Nat) : word l j < 4294967296 := by
  have h : ∀ i, (l.getD i 0).toNat ≤ 255 := by
    intro i
    rw [List.getD_eq_getElem?_getD]
    by_cases hi : i < l.length
    · rw [List.getElem?_eq_getElem hi]; have := hb _ (List.getElem_mem hi); simp only [Option.getD_some]; omega
    · rw [List.getElem?_eq_none (by omega)]; simp
  have h0 := h (4 * j)
  have h1 := h (4 * j + 1)
  have h2 := h (4 * j + 2)
  have h3 := h (4 * j + 3)
  unfold word; omega
theorem rol_lt (n k : Nat) (hn : n < 4294967296) (hk : k ≤ 32) : rol n k < 4294967296 := by
  unfold rol
  have e : (4294967296 : Nat) = 2 ^ k * 2 ^ (32 - k) := by rw [← Nat.pow_add, show k + (32 - k) = 32 by omega]
  have hp : 0 < 2 ^ k := Nat.pow_pos (by decide)
  have h1 : n * 2 ^ k % 4294967296 = n % 2 ^ (32 - k) * 2 ^ k := by
    rw [e, Nat.mul_comm (2 ^ k), Nat.mul_mod_mul_right]
  have h2 : n / 2 ^ (32 - k) < 2 ^ k := by
    rw [Nat.div_lt_iff_lt_mul (Nat.pow_pos (by decide)), ← e]; exact hn
  have h3 : n % 2 ^ (32 - k) < 2 ^ (32 - k) := Nat.mod_lt _ (Nat.pow_pos (by decide))
  rw [h1]
  have h4 : (n % 2 ^ (32 - k) + 1) * 2 ^ k ≤ 2 ^ (32 - k) * 2 ^ k := Nat.mul_le_mul_right _ h3
  rw [Nat.add_mul, Nat.mul_comm (2 ^ (32 - k)), ← e] at h4
  omega
end Go.Proofs.YtnfklhebcloolaaDoor.mdm
