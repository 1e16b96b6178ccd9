/- Plain mathematics of layer 2: a division bit by bit, its linearity, and what no difference within 32 bits survives. No program is spoken of here. -/
import Derived.Lib.EndianBits
import Derived.Laws.BitsAllLaws
namespace Go.Proofs.Ytjpbniajhkindaa.Crc

def D : Nat := 2197175160
def M : Nat := 4294967295

theorem D_odd : D.testBit 31 = true := by decide

theorem M_bit (j : Nat) : M.testBit j = decide (j < 32) := by
  have := Nat.testBit_two_pow_sub_one 32 j
  exact this

/-- one bit more is divided -/
def step (x : Nat) : Nat := (x / 2) ^^^ (if x.testBit 0 then D else 0)

theorem step_bit (x j : Nat) : (step x).testBit j = (x.testBit (j + 1) ^^ (x.testBit 0 && D.testBit j)) := by
  unfold step
  rw [Nat.testBit_xor, Nat.testBit_div_two]
  cases x.testBit 0 <;> simp

theorem step_lt {x : Nat} (h : x < 4294967296) : step x < 4294967296 := by
  unfold step
  have h1 : x / 2 < 2 ^ 32 := by omega
  have h2 : (if x.testBit 0 then D else 0) < 2 ^ 32 := by split <;> decide
  exact Nat.xor_lt_two_pow h1 h2

theorem step_xor (a b : Nat) : step (a ^^^ b) = step a ^^^ step b := by
  apply Nat.eq_of_testBit_eq
  intro j
  simp only [Nat.testBit_xor, step_bit]
  generalize a.testBit (j + 1) = p
  generalize b.testBit (j + 1) = q
  generalize a.testBit 0 = r
  generalize b.testBit 0 = s
  generalize D.testBit j = t
  revert p q r s t
  decide

theorem step_zero : step 0 = 0 := by decide

theorem step_ne {x : Nat} (h : x < 4294967296) (h0 : step x = 0) : x = 0 := by
  have hb : ∀ j, (x.testBit (j + 1) ^^ (x.testBit 0 && D.testBit j)) = false := fun j => by rw [← step_bit, h0, Nat.zero_testBit]
  have h31 := hb 31
  rw [D_odd, Nat.testBit_lt_two_pow (show x < 2 ^ (31 + 1) by exact h)] at h31
  have hx0 : x.testBit 0 = false := by simpa using h31
  apply Nat.eq_of_testBit_eq
  intro j
  rw [Nat.zero_testBit]
  cases j with
  | zero => exact hx0
  | succ j => simpa [hx0] using hb j

def steps : Nat → Nat → Nat
  | 0, x => x
  | k + 1, x => step (steps k x)

theorem steps_lt {x : Nat} (h : x < 4294967296) : ∀ k, steps k x < 4294967296
  | 0 => h
  | k + 1 => step_lt (steps_lt h k)

theorem steps_xor (a b : Nat) : ∀ k, steps k (a ^^^ b) = steps k a ^^^ steps k b
  | 0 => rfl
  | k + 1 => by simp only [steps]; rw [steps_xor a b k, step_xor]

theorem steps_zero : ∀ k, steps k 0 = 0
  | 0 => rfl
  | k + 1 => by simp only [steps]; rw [steps_zero k]; exact step_zero

theorem steps_ne {x : Nat} (h : x < 4294967296) : ∀ k, steps k x = 0 → x = 0
  | 0, h0 => h0
  | k + 1, h0 => steps_ne h k (step_ne (steps_lt h k) h0)

theorem steps_add (x j : Nat) : ∀ k, steps (j + k) x = steps k (steps j x)
  | 0 => rfl
  | k + 1 => by show step (steps (j + k) x) = step (steps k (steps j x)); rw [steps_add x j k]

/-- of a number's upper bits the steps make the number -/
theorem steps_pow : ∀ (k t : Nat), steps k (t * 2 ^ k) = t
  | 0, t => by simp [steps]
  | k + 1, t => by
    show step (steps k _) = t
    rw [show t * 2 ^ (k + 1) = (t * 2) * 2 ^ k by rw [Nat.pow_succ, Nat.mul_assoc, Nat.mul_comm 2], steps_pow k]
    apply Nat.eq_of_testBit_eq
    intro j
    rw [step_bit]
    rw [Nat.testBit_succ, Nat.mul_div_cancel _ (by decide)]
    simp

theorem split_pow (x k : Nat) : x = (x / 2 ^ k * 2 ^ k) ^^^ (x % 2 ^ k) := by
  apply Nat.eq_of_testBit_eq
  intro j
  rw [Nat.testBit_xor, Nat.testBit_mul_two_pow, Nat.testBit_mod_two_pow, Nat.testBit_div_two_pow]
  by_cases h : k ≤ j
  · have : ¬ j < k := by omega
    simp [h, this]
  · have : j < k := by omega
    simp [h, this]

/-- half a byte at once -/
theorem steps_half (x : Nat) : steps 4 x = (x / 16) ^^^ steps 4 (x % 16) := by
  conv => lhs; rw [split_pow x 4]
  rw [steps_xor, steps_pow]

/-- what is left over, bit by bit, of the bits r -/
def L (x : Nat) (r : Nat → Bool) : Nat → Nat
  | 0 => x
  | i + 1 => step (L x r i ^^^ (r i).toNat)

theorem L_lt {x : Nat} (h : x < 4294967296) (r : Nat → Bool) : ∀ i, L x r i < 4294967296
  | 0 => h
  | i + 1 => by
    apply step_lt
    have h1 : L x r i < 2 ^ 32 := L_lt h r i
    have h2 : (r i).toNat < 2 ^ 32 := Nat.lt_of_le_of_lt (Bool.toNat_le _) (by decide)
    exact Nat.xor_lt_two_pow h1 h2

theorem L_congr (x : Nat) {r s : Nat → Bool} : ∀ i, (∀ j, j < i → r j = s j) → L x r i = L x s i
  | 0, _ => rfl
  | i + 1, h => by simp only [L]; rw [L_congr x i (fun j hj => h j (by omega)), h i (by omega)]

theorem toNat_xor (a b : Bool) : (a ^^ b).toNat = a.toNat ^^^ b.toNat := by revert a b; decide

theorem L_xor (x y : Nat) (r s : Nat → Bool) : ∀ i, L (x ^^^ y) (fun j => r j ^^ s j) i = L x r i ^^^ L y s i
  | 0 => rfl
  | i + 1 => by
    simp only [L]
    rw [L_xor x y r s i, ← step_xor, toNat_xor]
    congr 1
    generalize L x r i = a
    generalize L y s i = b
    generalize (r i).toNat = c
    generalize (s i).toNat = d
    rw [Nat.xor_assoc, Nat.xor_assoc, ← Nat.xor_assoc b c d, Nat.xor_comm b c, Nat.xor_assoc c b d]

theorem L_shift (x : Nat) (r : Nat → Bool) (n : Nat) : ∀ i, L x r (n + i) = L (L x r n) (fun q => r (n + q)) i
  | 0 => rfl
  | i + 1 => by show step (L x r (n + i) ^^^ _) = step (L (L x r n) _ i ^^^ _); rw [L_shift x r n i]; rfl

theorem bit_toNat (m : Nat) : (m.testBit 0).toNat = m % 2 := by
  rw [Nat.testBit_zero]
  have := Nat.mod_two_eq_zero_or_one m
  rcases this with h | h <;> simp [h]

/-- k bits at once: those of m -/
theorem L_block (x : Nat) (r : Nat → Bool) (i : Nat) : ∀ (k m : Nat), (∀ t, t < k → r (i + t) = m.testBit t) → m < 2 ^ k → L x r (i + k) = steps k (L x r i ^^^ m)
  | 0, m, _, hm => by
    have : m = 0 := by simpa using hm
    subst this
    simp [steps]
  | k + 1, m, h, hm => by
    show step (L x r (i + k) ^^^ (r (i + k)).toNat) = step (steps k _)
    have hlow : ∀ t, t < k → r (i + t) = (m % 2 ^ k).testBit t := fun t ht => by
      rw [h t (by omega), Nat.testBit_mod_two_pow]; simp [ht]
    rw [L_block x r i k (m % 2 ^ k) hlow (Nat.mod_lt _ (Nat.two_pow_pos k))]
    have htop : (r (i + k)).toNat = m / 2 ^ k := by
      have h1 : m / 2 ^ k < 2 := Nat.div_lt_of_lt_mul (by rw [← Nat.pow_succ]; exact hm)
      rw [h k (by omega), show m.testBit k = (m / 2 ^ k).testBit 0 by rw [Nat.testBit_div_two_pow, Nat.zero_add], bit_toNat, Nat.mod_eq_of_lt h1]
    rw [htop]
    conv => rhs; rw [split_pow m k]
    simp only [steps_xor, steps_pow]
    rw [Nat.xor_comm (m / 2 ^ k), Nat.xor_assoc]

theorem L_quiet (x : Nat) (r : Nat → Bool) (i k : Nat) (h : ∀ t, t < k → r (i + t) = false) : L x r (i + k) = steps k (L x r i) := by
  rw [L_block x r i k 0 (fun t ht => by rw [h t ht, Nat.zero_testBit]) (Nat.two_pow_pos k), Nat.xor_zero]

/-- the bits of bytes, of each the lowest one first -/
def raw (zs : List Int) (m : Nat) : Bool := (zs.getD (m / 8) 0).toNat.testBit (m % 8)

theorem raw_end (zs : List Int) (m : Nat) (h : 8 * zs.length ≤ m) : raw zs m = false := by
  unfold raw
  rw [List.getD, List.getElem?_eq_none (by omega)]
  simp

theorem L_byte (x : Nat) (zs : List Int) (k : Nat) (hr : 0 ≤ zs.getD k 0 ∧ zs.getD k 0 ≤ 255) :
    L x (raw zs) (8 * (k + 1)) = steps 8 (L x (raw zs) (8 * k) ^^^ (zs.getD k 0).toNat) := by
  rw [show 8 * (k + 1) = 8 * k + 8 by omega]
  apply L_block
  · intro t ht
    unfold raw
    rw [show (8 * k + t) / 8 = k by omega, show (8 * k + t) % 8 = t by omega]
  · have : (zs.getD k 0).toNat < 256 := by omega
    exact this

/-- the check of bytes -/
def crc (zs : List Int) : Nat := M ^^^ L M (raw zs) (8 * zs.length)
/-- with more bytes behind -/
def on (c : Nat) (zs : List Int) : Nat := M ^^^ L (M ^^^ c) (raw zs) (8 * zs.length)

theorem M_lt : M < 4294967296 := by decide
theorem xor_lt {a b : Nat} (ha : a < 4294967296) (hb : b < 4294967296) : a ^^^ b < 4294967296 :=
  Nat.xor_lt_two_pow (n := 32) ha hb
theorem crc_lt (zs : List Int) : crc zs < 4294967296 := xor_lt M_lt (L_lt M_lt _ _)
theorem on_lt {c : Nat} (hc : c < 4294967296) (zs : List Int) : on c zs < 4294967296 := xor_lt M_lt (L_lt (xor_lt M_lt hc) _ _)

theorem on_zero (zs : List Int) : on 0 zs = crc zs := by unfold on crc; rw [Nat.xor_zero]

theorem xor_back (a b : Nat) : a ^^^ (a ^^^ b) = b := by rw [← Nat.xor_assoc, Nat.xor_self, Nat.zero_xor]

theorem on_crc (a b : List Int) : on (crc a) b = crc (a ++ b) := by
  unfold on crc
  rw [xor_back, List.length_append, Nat.mul_add, L_shift]
  congr 1
  have e1 : L M (raw (a ++ b)) (8 * a.length) = L M (raw a) (8 * a.length) := L_congr _ _ fun j hj => by
    unfold raw
    simp only [List.getD]
    rw [List.getElem?_append_left (by omega)]
  rw [e1]
  refine (L_congr _ _ fun j hj => ?_).symm
  unfold raw
  simp only [List.getD]
  rw [List.getElem?_append_right (by omega), show (8 * a.length + j) / 8 - a.length = j / 8 by omega, show (8 * a.length + j) % 8 = j % 8 by omega]

theorem on_cut (zs : List Int) (k : Nat) : on (crc (zs.take k)) (zs.drop k) = crc zs := by
  rw [on_crc, List.take_append_drop]

/-- a row with other bits -/
theorem crc_xor (a b : List Int) (n : Nat) (ha : a.length = n) (hb : b.length = n) (e : Nat → Bool) (h : ∀ q, q < 8 * n → raw b q = (raw a q ^^ e q)) :
    crc b = crc a ^^^ L 0 e (8 * n) := by
  unfold crc
  rw [ha, hb, L_congr M (8 * n) h, show L M (fun q => raw a q ^^ e q) (8 * n) = L (M ^^^ 0) (fun q => raw a q ^^ e q) (8 * n) by rw [Nat.xor_zero], L_xor, Nat.xor_assoc]

/-- bits that stand within 32, from 'at' on -/
def burst (p m : Nat) (q : Nat) : Bool := decide (p ≤ q) && decide (q < p + 32) && m.testBit (q - p)

theorem L_burst (p m n : Nat) (hp : p + 32 ≤ n) (hm : m < 4294967296) : L 0 (burst p m) n = steps (n - p) m := by
  have e1 : L 0 (burst p m) p = 0 := by
    have := L_quiet 0 (burst p m) 0 p (fun t ht => by unfold burst; simp; omega)
    rw [Nat.zero_add] at this
    rw [this]
    exact steps_zero p
  have e2 : L 0 (burst p m) (p + 32) = steps 32 m := by
    rw [L_block 0 (burst p m) p 32 m (fun t ht => by unfold burst; simp [ht]) hm, e1, Nat.zero_xor]
  rw [show n = (p + 32) + (n - p - 32) by omega, L_quiet 0 _ (p + 32) (n - p - 32) (fun t ht => by unfold burst; simp; omega), e2, ← steps_add]
  congr 1
  omega

theorem xor_eq_self {a b : Nat} (h : a ^^^ b = a) : b = 0 := by
  have := xor_back a b
  rw [h, Nat.xor_self] at this
  exact this.symm

theorem crc_burst (a b : List Int) (n p m : Nat) (ha : a.length = n) (hb : b.length = n) (hp : p + 32 ≤ 8 * n) (hm : m < 4294967296)
    (h : ∀ q, q < 8 * n → raw b q = (raw a q ^^ burst p m q)) : crc a = crc b ↔ m = 0 := by
  rw [crc_xor a b n ha hb _ h, L_burst p m _ hp hm]
  constructor
  · intro he
    exact steps_ne hm _ (xor_eq_self he.symm)
  · rintro rfl
    rw [steps_zero, Nat.xor_zero]

theorem crc_sum (a b c z : List Int) (n : Nat) (ha : a.length = n) (hb : b.length = n) (hc : c.length = n) (hz : z.length = n)
    (h : ∀ q, q < 8 * n → raw c q = (raw a q ^^ raw b q)) (h0 : ∀ q, q < 8 * n → raw z q = false) : (crc a ^^^ crc b) ^^^ crc c = crc z := by
  have e1 := crc_xor z a n hz ha (raw a) (fun q hq => by rw [h0 q hq, Bool.false_xor])
  have e2 := crc_xor z b n hz hb (raw b) (fun q hq => by rw [h0 q hq, Bool.false_xor])
  have e3 := crc_xor z c n hz hc (fun q => raw a q ^^ raw b q) (fun q hq => by rw [h0 q hq, Bool.false_xor, h q hq])
  rw [show L 0 (fun q => raw a q ^^ raw b q) (8 * n) = L (0 ^^^ 0) (fun q => raw a q ^^ raw b q) (8 * n) by rw [Nat.xor_zero], L_xor] at e3
  rw [e1, e2, e3]
  generalize L 0 (raw a) (8 * n) = x
  generalize L 0 (raw b) (8 * n) = y
  generalize crc z = s
  apply Nat.eq_of_testBit_eq
  intro j
  simp only [Nat.testBit_xor]
  cases x.testBit j <;> cases y.testBit j <;> cases s.testBit j <;> rfl

/-! the long division -/
def P (k : Nat) : Nat := [28, 27, 26, 25, 23, 22, 20, 19, 18, 14, 13, 11, 10, 9, 8, 6, 0].getD k 0
/-- the places that are turned by the first k powers -/
def T : Nat → Nat → Bool
  | 0, _ => false
  | k + 1, j => T k j ^^ decide (j = 32 - P k)

theorem T_high (j : Nat) (h : 32 < j) : ∀ k, T k j = false
  | 0 => rfl
  | k + 1 => by simp only [T]; rw [T_high j h k]; simp; omega

theorem T_D (j : Nat) : T 17 (j + 1) = D.testBit j := by
  by_cases h : j < 32
  · have hall : ∀ j, j < 32 → T 17 (j + 1) = D.testBit j := by decide
    exact hall j h
  · rw [T_high _ (by omega), Nat.testBit_lt_two_pow]
    exact Nat.lt_of_lt_of_le (show D < 2 ^ 32 by decide) (Nat.pow_le_pow_right (by decide) (by omega))

/-- the row's bits, with i of them divided: what is left over, on the bits that are still to come -/
def Left (r : Nat → Bool) (i : Nat) (f : Nat → Bool) : Prop := ∀ m, i ≤ m → f m = ((L M r i).testBit (m - i) ^^ r m)

theorem Left.zero {r f : Nat → Bool} (h : ∀ m, f m = (r m ^^ decide (m < 32))) : Left r 0 f := fun m _ => by
  rw [h m, show L M r 0 = M from rfl, Nat.sub_zero, M_bit, Bool.xor_comm]

theorem Left.low {r f : Nat → Bool} {i : Nat} (h : Left r i f) : f i = (L M r i ^^^ (r i).toNat).testBit 0 := by
  rw [h i (Nat.le_refl _), Nat.sub_self, Nat.testBit_xor]
  congr 1
  cases r i <;> rfl

theorem bool_bit (b : Bool) (j : Nat) : b.toNat.testBit (j + 1) = false := by
  apply Nat.testBit_lt_two_pow
  have := Bool.toNat_le b
  have : 2 ^ 1 ≤ 2 ^ (j + 1) := Nat.pow_le_pow_right (by decide) (by omega)
  omega

theorem Left.next0 {r f : Nat → Bool} {i : Nat} (h : Left r i f) (h0 : f i = false) : Left r (i + 1) f := fun m hm => by
  obtain ⟨j, rfl⟩ : ∃ j, m = i + 1 + j := ⟨m - (i + 1), by omega⟩
  rw [show i + 1 + j - (i + 1) = j by omega]
  simp only [L]
  rw [step_bit, ← h.low, h0, Bool.false_and, Bool.xor_false, Nat.testBit_xor, bool_bit, Bool.xor_false, h _ (by omega)]
  congr 2
  omega

theorem Left.next1 {r f g : Nat → Bool} {i : Nat} (h : Left r i f) (h1 : f i = true) (hg : ∀ m, i < m → g m = (f m ^^ T 17 (m - i))) : Left r (i + 1) g := fun m hm => by
  obtain ⟨j, rfl⟩ : ∃ j, m = i + 1 + j := ⟨m - (i + 1), by omega⟩
  rw [hg _ (by omega), show i + 1 + j - (i + 1) = j by omega, show i + 1 + j - i = j + 1 by omega, T_D]
  simp only [L]
  rw [step_bit, ← h.low, h1, Bool.true_and, Nat.testBit_xor, bool_bit, Bool.xor_false, h _ (by omega), show i + 1 + j - i = j + 1 by omega]
  generalize (L M r i).testBit (j + 1) = x
  generalize D.testBit j = y
  generalize r (i + 1 + j) = z
  revert x y z
  decide

/-- the check's bits, read from the top -/
theorem top_bits (X i : Nat) : X / 2 ^ i = 2 * (X / 2 ^ (i + 1)) + (X.testBit i).toNat := by
  rw [show X.testBit i = (X / 2 ^ i).testBit 0 by rw [Nat.testBit_div_two_pow, Nat.zero_add], bit_toNat, Nat.pow_succ, ← Nat.div_div_eq_div_mul]
  omega

theorem not_bit (X i : Nat) (hi : i < 32) : (M ^^^ X).testBit i = !X.testBit i := by
  rw [Nat.testBit_xor, M_bit]; simp [hi]

theorem Left.last {r f : Nat → Bool} {n : Nat} (h : Left r n f) (hr : ∀ m, n ≤ m → r m = false) (i : Nat) (hi : i < 32) : (!f (n + i)) = (M ^^^ L M r n).testBit i := by
  rw [not_bit _ _ hi, h _ (by omega), hr _ (by omega), Bool.xor_false, Nat.add_sub_cancel_left]

/-! masked -/
def mask (c : Nat) : Nat := (c / 32768 + c % 32768 * 131072 + 2726488792) % 4294967296

theorem mask_lt (c : Nat) : mask c < 4294967296 := Nat.mod_lt _ (by decide)

theorem turn_inj {a b : Nat} (h : a / 32768 + a % 32768 * 131072 = b / 32768 + b % 32768 * 131072) (ha : a < 4294967296) (hb : b < 4294967296) : a = b := by
  have a1 : a / 32768 < 131072 := by omega
  have b1 : b / 32768 < 131072 := by omega
  have a2 := Nat.div_add_mod a 32768
  have b2 := Nat.div_add_mod b 32768
  have a3 := Nat.mod_lt a (show 0 < 32768 by decide)
  have b3 := Nat.mod_lt b (show 0 < 32768 by decide)
  generalize a / 32768 = p at *
  generalize a % 32768 = q at *
  generalize b / 32768 = r at *
  generalize b % 32768 = s at *
  omega

theorem turn_lt {a : Nat} (ha : a < 4294967296) : a / 32768 + a % 32768 * 131072 < 4294967296 := by omega

theorem mask_inj {a b : Nat} (ha : a < 4294967296) (hb : b < 4294967296) : mask a = mask b ↔ a = b := by
  unfold mask
  constructor
  · intro h
    refine turn_inj ?_ ha hb
    have h1 := turn_lt ha
    have h2 := turn_lt hb
    generalize a / 32768 + a % 32768 * 131072 = p at *
    generalize b / 32768 + b % 32768 * 131072 = q at *
    omega
  · rintro rfl
    rfl

end Go.Proofs.Ytjpbniajhkindaa.Crc
