/-
  Plain numbers: what a sum of bytes is (chapter 1), over naturals and integers; no condition, no program is named here.
-/
import Derived.WalkKit
namespace Go.Proofs.Ytfjcbcpfhjaeeaa.SumM

def step (s : Nat) : Nat := if s % 2 = 1 then (s / 2) ^^^ 2748603157 else s / 2
def steps : Nat → Nat → Nat
  | 0, s => s
  | k + 1, s => step (steps k s)
def turn (s c : Nat) : Nat := steps 8 (s ^^^ c)

theorem step_lt {s : Nat} (h : s < 4294967296) : step s < 4294967296 := by
  unfold step
  split
  · exact Nat.xor_lt_two_pow (n := 32) (by omega) (by omega)
  · omega
theorem step_even {s : Nat} (h : s % 2 = 0) : step s = s / 2 := by unfold step; rw [if_neg (by omega)]
theorem step_odd {s : Nat} (h : s % 2 = 1) : step s = (s / 2) ^^^ 2748603157 := by unfold step; rw [if_pos h]
theorem step_top {s : Nat} (h : s < 4294967296) : (step s).testBit 31 = decide (s % 2 = 1) := by
  have h2 : (s / 2).testBit 31 = false := Nat.testBit_lt_two_pow (by omega)
  rcases Nat.mod_two_eq_zero_or_one s with e | e
  · rw [step_even e, h2, e]; rfl
  · rw [step_odd e, Nat.testBit_xor, h2, e]; decide
theorem step_inj {s t : Nat} (hs : s < 4294967296) (ht : t < 4294967296) (h : step s = step t) : s = t := by
  have e1 := step_top hs
  have e2 := step_top ht
  rw [h, e2] at e1
  have e3 : (t % 2 = 1) ↔ (s % 2 = 1) := by simpa using e1
  rcases Nat.mod_two_eq_zero_or_one s with es | es
  · have et : t % 2 = 0 := by omega
    rw [step_even es, step_even et] at h
    omega
  · have et : t % 2 = 1 := by omega
    rw [step_odd es, step_odd et] at h
    have h' := congrArg (fun x => x ^^^ 2748603157) h
    simp only [Nat.xor_assoc, Nat.xor_self, Nat.xor_zero] at h'
    omega
theorem step_xor (a b : Nat) : step (a ^^^ b) = step a ^^^ step b := by
  have hm : (a ^^^ b) % 2 = (a % 2 + b % 2) % 2 := by
    have h1 := @Nat.xor_mod_two_eq_one a b
    omega
  have hd : (a ^^^ b) / 2 = a / 2 ^^^ b / 2 := Nat.xor_div_two
  rcases Nat.mod_two_eq_zero_or_one a with ea | ea <;> rcases Nat.mod_two_eq_zero_or_one b with eb | eb
  · rw [step_even (by omega), step_even ea, step_even eb, hd]
  · rw [step_odd (by omega), step_even ea, step_odd eb, hd, Nat.xor_assoc]
  · rw [step_odd (by omega), step_odd ea, step_even eb, hd, Nat.xor_assoc, Nat.xor_assoc, Nat.xor_comm (b / 2)]
  · rw [step_even (by omega), step_odd ea, step_odd eb, hd]
    rw [Nat.xor_assoc, Nat.xor_comm (b / 2), ← Nat.xor_assoc 2748603157, Nat.xor_self, Nat.zero_xor]

theorem steps_lt (k : Nat) {s : Nat} (h : s < 4294967296) : steps k s < 4294967296 := by
  induction k with
  | zero => exact h
  | succ k ih => exact step_lt ih
theorem steps_inj (k : Nat) {s t : Nat} (hs : s < 4294967296) (ht : t < 4294967296) (h : steps k s = steps k t) : s = t := by
  induction k with
  | zero => exact h
  | succ k ih => exact ih (step_inj (steps_lt k hs) (steps_lt k ht) h)
theorem steps_xor (k a b : Nat) : steps k (a ^^^ b) = steps k a ^^^ steps k b := by
  induction k with
  | zero => rfl
  | succ k ih => show step (steps k (a ^^^ b)) = _; rw [ih, step_xor]; rfl

theorem xor_lt {s c : Nat} (hs : s < 4294967296) (hc : c < 4294967296) : s ^^^ c < 4294967296 := Nat.xor_lt_two_pow (n := 32) (by omega) (by omega)
theorem xor_cancel {s c d : Nat} (h : s ^^^ c = s ^^^ d) : c = d := by
  have h' := congrArg (fun x => s ^^^ x) h
  simp only [← Nat.xor_assoc, Nat.xor_self, Nat.zero_xor] at h'
  exact h'
theorem turn_lt {s c : Nat} (hs : s < 4294967296) (hc : c < 256) : turn s c < 4294967296 := steps_lt 8 (xor_lt hs (by omega))
theorem turn_inj {s t c d : Nat} (hs : s < 4294967296) (ht : t < 4294967296) (hc : c < 256) (hd : d < 256) (h : turn s c = turn t d) : s ^^^ c = t ^^^ d :=
  steps_inj 8 (xor_lt hs (by omega)) (xor_lt ht (by omega)) h
theorem turn_xor (a b c d : Nat) : turn (a ^^^ b) (c ^^^ d) = turn a c ^^^ turn b d := by
  unfold turn
  rw [← steps_xor]
  congr 1
  rw [Nat.xor_assoc, Nat.xor_assoc, ← Nat.xor_assoc b c d, Nat.xor_comm b c, Nat.xor_assoc c b d]

/-! ### The same over integers, as the program's values are spelled -/
def turnI (s c : Int) : Int := (turn s.toNat c.toNat : Nat)
def moreI (s : Int) (l : List Int) : Int := l.foldl turnI s
def ofI (l : List Int) : Int := 4294967295 - moreI 4294967295 l

def U32 (s : Int) : Prop := 0 ≤ s ∧ s < 4294967296
def U8 (s : Int) : Prop := 0 ≤ s ∧ s < 256
def Bytes (l : List Int) : Prop := ∀ c ∈ l, U8 c

theorem turnI_u32 {s c : Int} (hs : U32 s) (hc : U8 c) : U32 (turnI s c) := by
  obtain ⟨a, b⟩ := hs; obtain ⟨a', b'⟩ := hc
  have := turn_lt (s := s.toNat) (c := c.toNat) (by omega) (by omega)
  unfold turnI U32
  omega
theorem moreI_u32 {s : Int} {l : List Int} (hs : U32 s) (hl : Bytes l) : U32 (moreI s l) := by
  induction l generalizing s with
  | nil => exact hs
  | cons c l ih => exact ih (turnI_u32 hs (hl c (by simp))) fun d hd => hl d (by simp [hd])
theorem ofI_u32 {l : List Int} (hl : Bytes l) : U32 (ofI l) := by
  have h := moreI_u32 (s := 4294967295) ⟨by omega, by omega⟩ hl
  unfold ofI U32 at *
  omega
theorem turnI_inj_sum {s t c : Int} (hs : U32 s) (ht : U32 t) (hc : U8 c) : turnI s c = turnI t c ↔ s = t := by
  obtain ⟨a, b⟩ := hs; obtain ⟨a', b'⟩ := ht; obtain ⟨a'', b''⟩ := hc
  constructor
  · intro h
    have h' : turn s.toNat c.toNat = turn t.toNat c.toNat := by unfold turnI at h; omega
    have h2 := turn_inj (by omega) (by omega) (by omega) (by omega) h'
    rw [Nat.xor_comm, Nat.xor_comm t.toNat] at h2
    have h3 := xor_cancel h2
    omega
  · rintro rfl; rfl
theorem turnI_inj_byte {s c d : Int} (hs : U32 s) (hc : U8 c) (hd : U8 d) : turnI s c = turnI s d ↔ c = d := by
  obtain ⟨a, b⟩ := hs; obtain ⟨a', b'⟩ := hd; obtain ⟨a'', b''⟩ := hc
  constructor
  · intro h
    have h' : turn s.toNat c.toNat = turn s.toNat d.toNat := by unfold turnI at h; omega
    have h3 := xor_cancel (turn_inj (by omega) (by omega) (by omega) (by omega) h')
    omega
  · rintro rfl; rfl
theorem moreI_append (s : Int) (l m : List Int) : moreI s (l ++ m) = moreI (moreI s l) m := List.foldl_append ..
theorem moreI_nil (s : Int) : moreI s [] = s := rfl
theorem moreI_cons (s c : Int) (l : List Int) : moreI s (c :: l) = moreI (turnI s c) l := rfl
theorem moreI_inj {s t : Int} {l : List Int} (hs : U32 s) (ht : U32 t) (hl : Bytes l) : moreI s l = moreI t l ↔ s = t := by
  induction l generalizing s t with
  | nil => exact Iff.rfl
  | cons c l ih =>
    have hc := hl c (by simp)
    rw [moreI_cons, moreI_cons, ih (turnI_u32 hs hc) (turnI_u32 ht hc) fun d hd => hl d (by simp [hd]), turnI_inj_sum hs ht hc]
theorem moreI_snoc {l : List Int} (s : Int) (k : Nat) (h : k < l.length) : moreI s (l.take (k + 1)) = turnI (moreI s (l.take k)) (l.getD k 0) := by
  rw [List.take_succ_eq_append_getElem h, moreI_append]
  simp [List.getD_eq_getElem?_getD, h, moreI_cons, moreI_nil]

/-- One byte set elsewhere: the sums are unlike just if the bytes are. -/
theorem ofI_set {l : List Int} {k : Nat} {c : Int} (hl : Bytes l) (hc : U8 c) (hk : k < l.length) : ofI (l.set k c) = ofI l ↔ c = l.getD k 0 := by
  have e : l = l.take k ++ l.getD k 0 :: l.drop (k + 1) := by
    have := List.take_append_drop k l
    rw [List.drop_eq_getElem_cons hk] at this
    simp [List.getD_eq_getElem?_getD, hk]
  have e2 : l.set k c = l.take k ++ c :: l.drop (k + 1) := by
    rw [List.set_eq_take_append_cons_drop, if_pos hk]
  have b1 : Bytes (l.take k) := fun d hd => hl d (List.mem_of_mem_take hd)
  have b2 : Bytes (l.drop (k + 1)) := fun d hd => hl d (List.mem_of_mem_drop hd)
  have b3 : U8 (l.getD k 0) := by
    rw [List.getD_eq_getElem?_getD, List.getElem?_eq_getElem hk]
    exact hl _ (List.getElem_mem _)
  have us : U32 (moreI 4294967295 (l.take k)) := moreI_u32 ⟨by omega, by omega⟩ b1
  have e3 : moreI 4294967295 l = moreI (turnI (moreI 4294967295 (l.take k)) (l.getD k 0)) (l.drop (k + 1)) := by
    conv => lhs; rw [e]
    rw [moreI_append, moreI_cons]
  have h := moreI_inj (turnI_u32 us hc) (turnI_u32 us b3) b2
  have h2 := turnI_inj_byte us hc b3
  unfold ofI
  rw [e2, moreI_append, moreI_cons, e3]
  constructor
  · intro h'; exact h2.mp (h.mp (by omega))
  · intro h'; rw [h']

/-! ### Three laid one over another -/
def x3 (a b c : Int) : Int := ((a.toNat ^^^ b.toNat ^^^ c.toNat : Nat) : Int)
def x3l : List Int → List Int → List Int → List Int
  | a :: A, b :: B, c :: C => x3 a b c :: x3l A B C
  | _, _, _ => []
theorem x3l_len (A B C : List Int) (n : Nat) (ha : A.length = n) (hb : B.length = n) (hc : C.length = n) : (x3l A B C).length = n := by
  induction A generalizing B C n with
  | nil => simpa [x3l] using ha
  | cons a A ih =>
    cases B with
    | nil => simp at ha hb; omega
    | cons b B =>
      cases C with
      | nil => simp at ha hc; omega
      | cons c C =>
        simp at ha hb hc
        simp only [x3l, List.length_cons]
        rw [ih B C (n - 1) (by omega) (by omega) (by omega)]
        omega
theorem x3l_at (A B C : List Int) (n : Nat) (ha : A.length = n) (hb : B.length = n) (hc : C.length = n) (t : Nat) (ht : t < n) : (x3l A B C).getD t 0 = x3 (A.getD t 0) (B.getD t 0) (C.getD t 0) := by
  induction A generalizing B C n t with
  | nil => simp at ha; omega
  | cons a A ih =>
    cases B with
    | nil => simp at ha hb; omega
    | cons b B =>
      cases C with
      | nil => simp at ha hc; omega
      | cons c C =>
        simp at ha hb hc
        cases t with
        | zero => rfl
        | succ t => exact ih B C (n - 1) (by omega) (by omega) (by omega) t (by omega)
theorem x3_u8 {a b c : Int} (ha : U8 a) (hb : U8 b) (hc : U8 c) : U8 (x3 a b c) := by
  obtain ⟨h1, h2⟩ := ha; obtain ⟨h3, h4⟩ := hb; obtain ⟨h5, h6⟩ := hc
  have h := Nat.xor_lt_two_pow (n := 8) (x := a.toNat ^^^ b.toNat) (y := c.toNat) (Nat.xor_lt_two_pow (n := 8) (by omega) (by omega)) (by omega)
  unfold x3 U8
  omega
theorem x3l_bytes {A B C : List Int} (ha : Bytes A) (hb : Bytes B) (hc : Bytes C) : Bytes (x3l A B C) := by
  induction A generalizing B C with
  | nil => intro d hd; simp [x3l] at hd
  | cons a A ih =>
    cases B with
    | nil => intro d hd; simp [x3l] at hd
    | cons b B =>
      cases C with
      | nil => intro d hd; simp [x3l] at hd
      | cons c C =>
        intro d hd
        simp only [x3l, List.mem_cons] at hd
        rcases hd with rfl | hd
        · exact x3_u8 (ha a (by simp)) (hb b (by simp)) (hc c (by simp))
        · exact ih (fun e he => ha e (by simp [he])) (fun e he => hb e (by simp [he])) (fun e he => hc e (by simp [he])) d hd
theorem turnI_x3 (s t u a b c : Int) : turnI (x3 s t u) (x3 a b c) = x3 (turnI s a) (turnI t b) (turnI u c) := by
  unfold turnI x3
  simp only [Int.toNat_natCast]
  rw [turn_xor, turn_xor]
theorem moreI_x3 (A B C : List Int) (s t u : Int) (n : Nat) (ha : A.length = n) (hb : B.length = n) (hc : C.length = n) : moreI (x3 s t u) (x3l A B C) = x3 (moreI s A) (moreI t B) (moreI u C) := by
  induction A generalizing B C n s t u with
  | nil =>
    simp at ha
    subst ha
    rw [List.eq_nil_of_length_eq_zero hb, List.eq_nil_of_length_eq_zero hc]
    rfl
  | cons a A ih =>
    cases B with
    | nil => simp at ha hb; omega
    | cons b B =>
      cases C with
      | nil => simp at ha hc; omega
      | cons c C =>
        simp at ha hb hc
        simp only [x3l, moreI_cons]
        rw [turnI_x3, ih B C _ _ _ (n - 1) (by omega) (by omega) (by omega)]
theorem not_xor (m : Nat) (h : m < 4294967296) : 4294967295 - m = m ^^^ 4294967295 := by
  have e : (BitVec.allOnes 32 ^^^ BitVec.ofNat 32 m).toNat = 4294967295 - m := by
    rw [BitVec.allOnes_xor, BitVec.toNat_not, BitVec.toNat_ofNat, Nat.mod_eq_of_lt (by omega)]
  have e2 : (BitVec.allOnes 32 ^^^ BitVec.ofNat 32 m).toNat = 4294967295 ^^^ m := by
    rw [BitVec.toNat_xor, BitVec.toNat_ofNat, Nat.mod_eq_of_lt (by omega)]
    rfl
  rw [← e, e2, Nat.xor_comm]
theorem ofI_x3 (A B C : List Int) (n : Nat) (ha : A.length = n) (hb : B.length = n) (hc : C.length = n) (ba : Bytes A) (bb : Bytes B) (bc : Bytes C) : ofI (x3l A B C) = x3 (ofI A) (ofI B) (ofI C) := by
  have e0 : (4294967295 : Int) = x3 4294967295 4294967295 4294967295 := by decide
  have h := moreI_x3 A B C 4294967295 4294967295 4294967295 n ha hb hc
  rw [← e0] at h
  unfold ofI
  rw [h]
  have u1 := moreI_u32 (s := 4294967295) ⟨by omega, by omega⟩ ba
  have u2 := moreI_u32 (s := 4294967295) ⟨by omega, by omega⟩ bb
  have u3 := moreI_u32 (s := 4294967295) ⟨by omega, by omega⟩ bc
  generalize moreI 4294967295 A = p at u1 ⊢
  generalize moreI 4294967295 B = q at u2 ⊢
  generalize moreI 4294967295 C = r at u3 ⊢
  obtain ⟨p1, p2⟩ := u1; obtain ⟨q1, q2⟩ := u2; obtain ⟨r1, r2⟩ := u3
  have lt := xor_lt (s := p.toNat ^^^ q.toNat) (c := r.toNat) (xor_lt (by omega) (by omega)) (by omega)
  unfold x3
  have f : ∀ x : Int, 0 ≤ x → x < 4294967296 → (4294967295 - x).toNat = x.toNat ^^^ 4294967295 := fun x h1 h2 => by
    rw [← not_xor x.toNat (by omega)]; omega
  rw [f p p1 p2, f q q1 q2, f r r1 r2]
  have g := not_xor _ lt
  have k : (p.toNat ^^^ 4294967295) ^^^ (q.toNat ^^^ 4294967295) ^^^ (r.toNat ^^^ 4294967295) = (p.toNat ^^^ q.toNat ^^^ r.toNat) ^^^ 4294967295 := by
    have k1 : (p.toNat ^^^ 4294967295) ^^^ (q.toNat ^^^ 4294967295) = p.toNat ^^^ q.toNat := by
      rw [Nat.xor_assoc, Nat.xor_comm q.toNat, ← Nat.xor_assoc 4294967295, Nat.xor_self, Nat.zero_xor]
    rw [k1, ← Nat.xor_assoc]
  rw [k, ← g]
  omega
end Go.Proofs.Ytfjcbcpfhjaeeaa.SumM
