/-
  Plain numbers of chapter 2: an image of a page as a list of numbers; what Open tells of a list; no program is named here.
-/
import Derived.Test.YtfjcbcpfhjaeeaaSumMath
namespace Go.Proofs.Ytfjcbcpfhjaeeaa.PageM
open Go.Proofs.Ytfjcbcpfhjaeeaa.SumM

/-- The four bytes behind the sum. -/
def hdr (id : Int) : List Int := [id + 1, 0, 90, 165]
/-- The bytes of a number of 32 bits, the lowest first. -/
def le4 (s : Int) : List Int := [s % 256, s / 256 % 256, s / 65536 % 256, s / 16777216 % 256]
def tail (id : Int) (zs : List Int) : List Int := hdr id ++ zs
def sealI (id : Int) (zs : List Int) : List Int := le4 (ofI (tail id zs)) ++ tail id zs
def zeros (n : Nat) : List Int := List.replicate n 0

theorem tail_len (id : Int) (zs : List Int) : (tail id zs).length = zs.length + 4 := by simp [tail, hdr]
theorem seal_len (id : Int) (zs : List Int) : (sealI id zs).length = zs.length + 8 := by simp [sealI, le4, tail_len]
theorem zeros_len (n : Nat) : (zeros n).length = n := by simp [zeros]
theorem zeros_bytes (n : Nat) : Bytes (zeros n) := fun c hc => by
  have := List.eq_of_mem_replicate hc
  subst this; exact ⟨by omega, by omega⟩
theorem tail_bytes {id : Int} {zs : List Int} (h0 : 0 ≤ id) (h1 : id < 48) (hz : Bytes zs) : Bytes (tail id zs) := fun c hc => by
  simp only [tail, hdr, List.cons_append, List.nil_append, List.mem_cons] at hc
  rcases hc with rfl | rfl | rfl | rfl | hc
  · exact ⟨by omega, by omega⟩
  · exact ⟨by omega, by omega⟩
  · exact ⟨by omega, by omega⟩
  · exact ⟨by omega, by omega⟩
  · exact hz c hc
theorem le4_bytes (s : Int) : Bytes (le4 s) := fun c hc => by
  simp only [le4, List.mem_cons, List.not_mem_nil, or_false] at hc
  rcases hc with rfl | rfl | rfl | rfl <;> exact ⟨by omega, by omega⟩
theorem seal_bytes {id : Int} {zs : List Int} (h0 : 0 ≤ id) (h1 : id < 48) (hz : Bytes zs) : Bytes (sealI id zs) := fun c hc => by
  rcases List.mem_append.1 hc with h | h
  · exact le4_bytes _ c h
  · exact tail_bytes h0 h1 hz c h
theorem le4_inj {s t : Int} (hs : U32 s) (ht : U32 t) (h : le4 s = le4 t) : s = t := by
  simp only [le4, List.cons.injEq, and_true] at h
  obtain ⟨a1, a2⟩ := hs
  obtain ⟨b1, b2⟩ := ht
  omega
theorem seal_drop (id : Int) (zs : List Int) : (sealI id zs).drop 8 = zs := rfl
theorem seal_drop4 (id : Int) (zs : List Int) : (sealI id zs).drop 4 = tail id zs := rfl
theorem seal_at4 (id : Int) (zs : List Int) : (sealI id zs).getD 4 0 = id + 1 := rfl
theorem seal_at6 (id : Int) (zs : List Int) : (sealI id zs).getD 6 0 = 90 := rfl
theorem seal_ne_zeros (id : Int) (zs : List Int) : sealI id zs ≠ zeros 24 := fun h => by
  have h6 := congrArg (fun l => l.getD 6 0) h
  simp only [seal_at6] at h6
  exact absurd h6 (by decide)
theorem seal_ne {a b : Int} (zs ys : List Int) (h : a ≠ b) : sealI a zs ≠ sealI b ys := fun e => by
  have h4 := congrArg (fun l => l.getD 4 0) e
  simp only [seal_at4] at h4
  omega

/-- Is there such a page? -/
def isPage (id : Int) : Bool := decide (0 ≤ id) && decide (id < 48)
/-- What Seal tells. -/
def sealOk (id : Int) (n : Nat) : Bool := isPage id && n == 16
def sealB (id : Int) (zs : List Int) : List Int := if sealOk id zs.length then sealI id zs else []
def sealC (id : Int) (n : Nat) : Int := if sealOk id n then 0 else 1
/-- What Open tells: the code, the body. -/
def openC (id : Int) (zs : List Int) : Int := if isPage id && zs.length == 24 then (if zs = zeros 24 then 11 else if zs = sealI id (zs.drop 8) then 0 else 10) else 1
def openB (id : Int) (zs : List Int) : List Int := if openC id zs = 0 then zs.drop 8 else []

theorem openC_bad {id : Int} {zs : List Int} (h : ¬ (0 ≤ id ∧ id < 48 ∧ zs.length = 24)) : openC id zs = 1 := by
  unfold openC isPage
  rw [if_neg]
  simpa [and_assoc] using h
theorem openC_good {id : Int} {zs : List Int} (h0 : 0 ≤ id) (h1 : id < 48) (h2 : zs.length = 24) : openC id zs = if zs = zeros 24 then 11 else if zs = sealI id (zs.drop 8) then 0 else 10 := by
  unfold openC isPage
  rw [if_pos (by simp [h0, h1, h2])]
theorem openC_seal {id : Int} {zs : List Int} (h0 : 0 ≤ id) (h1 : id < 48) (h2 : zs.length = 16) : openC id (sealI id zs) = 0 := by
  rw [openC_good h0 h1 (by rw [seal_len]; omega), if_neg (seal_ne_zeros _ _), if_pos (by rw [seal_drop])]
theorem openC_other {a b : Int} {zs : List Int} (h0 : 0 ≤ b) (h1 : b < 48) (h2 : zs.length = 16) (hne : a ≠ b) : openC b (sealI a zs) = 10 := by
  rw [openC_good h0 h1 (by rw [seal_len]; omega), if_neg (seal_ne_zeros _ _), if_neg (seal_ne _ _ hne)]
theorem openC_zeros {id : Int} (h0 : 0 ≤ id) (h1 : id < 48) : openC id (zeros 24) = 11 := by
  rw [openC_good h0 h1 (by simp [zeros]), if_pos rfl]
theorem openB_seal {id : Int} {zs : List Int} (h0 : 0 ≤ id) (h1 : id < 48) (h2 : zs.length = 16) : openB id (sealI id zs) = zs := by
  unfold openB
  rw [if_pos (openC_seal h0 h1 h2), seal_drop]

/-- One byte of an image that is turned is told. -/
theorem open_turned {id : Int} {zs : List Int} {k : Nat} {c : Int} (h0 : 0 ≤ id) (h1 : id < 48) (h2 : zs.length = 16) (hz : Bytes zs) (hk : k < 24) (hc : U8 c) (hne : c ≠ (sealI id zs).getD k 0) :
    openC id ((sealI id zs).set k c) = 10 := by
  have hl : ((sealI id zs).set k c).length = 24 := by rw [List.length_set, seal_len]; omega
  rw [openC_good h0 h1 hl, if_neg, if_neg]
  · intro e
    -- the body of the turned image is zs, or zs turned at one place
    by_cases hk4 : k < 4
    · have hd : ((sealI id zs).set k c).drop 8 = zs := by
        rw [List.drop_set_of_lt (by omega)]; exact seal_drop id zs
      rw [hd] at e
      have := congrArg (fun l => l.getD k 0) e
      simp only [List.getD_eq_getElem?_getD, List.getElem?_set_self (show k < (sealI id zs).length by rw [seal_len]; omega), Option.getD_some] at this
      rw [List.getD_eq_getElem?_getD] at hne
      exact hne this
    · by_cases hk8 : k < 8
      · have hd : ((sealI id zs).set k c).drop 8 = zs := by
          rw [List.drop_set_of_lt (by omega)]; exact seal_drop id zs
        rw [hd] at e
        have := congrArg (fun l => l.getD k 0) e
        simp only [List.getD_eq_getElem?_getD, List.getElem?_set_self (show k < (sealI id zs).length by rw [seal_len]; omega), Option.getD_some] at this
        rw [List.getD_eq_getElem?_getD] at hne
        exact hne this
      · obtain ⟨j, rfl⟩ : ∃ j, k = 8 + j := ⟨k - 8, by omega⟩
        have hj : j < zs.length := by omega
        have hd : ((sealI id zs).set (8 + j) c).drop 8 = zs.set j c := by
          rw [List.drop_set, if_neg (by omega), seal_drop, show 8 + j - 8 = j by omega]
        rw [hd] at e
        have hs : (sealI id zs).set (8 + j) c = le4 (ofI (tail id zs)) ++ tail id (zs.set j c) := by
          have h4 : (tail id zs).set (4 + j) c = tail id (zs.set j c) := by
            unfold tail
            rw [List.set_append_right _ _ (by simp [hdr]), show 4 + j - (hdr id).length = j by simp [hdr]]
          rw [← h4]
          unfold sealI
          rw [List.set_append_right _ _ (by simp [le4]; omega), show 8 + j - (le4 (ofI (tail id zs))).length = 4 + j by simp [le4]; omega]
        rw [hs] at e
        unfold sealI at e
        have e4 := (List.append_inj e (by simp [le4])).1
        have hb := tail_bytes h0 h1 hz
        have hb' : Bytes (tail id (zs.set j c)) := tail_bytes h0 h1 fun d hd => by
          rcases List.mem_or_eq_of_mem_set hd with h | h
          · exact hz d h
          · rw [h]; exact hc
        have e5 := le4_inj (ofI_u32 hb) (ofI_u32 hb') e4
        have h4 : (tail id zs).set (4 + j) c = tail id (zs.set j c) := by
          unfold tail
          rw [List.set_append_right _ _ (by simp [hdr]), show 4 + j - (hdr id).length = j by simp [hdr]]
        rw [← h4] at e5
        have e6 := (ofI_set hb hc (by rw [tail_len]; omega)).1 e5.symm
        refine hne ?_
        rw [e6]
        unfold sealI
        rw [List.getD_eq_getElem?_getD, List.getD_eq_getElem?_getD, List.getElem?_append_right (by simp [le4]; omega), show 8 + j - (le4 (ofI (tail id zs))).length = 4 + j by simp [le4]; omega]
  · intro e
    -- two places of the sign
    have g6 := congrArg (fun l => l.getD 6 0) e
    have g7 := congrArg (fun l => l.getD 7 0) e
    have z6 : (zeros 24).getD 6 0 = 0 := by decide
    have z7 : (zeros 24).getD 7 0 = 0 := by decide
    simp only [z6, z7, List.getD_eq_getElem?_getD, List.getElem?_set] at g6 g7
    have s6 : (sealI id zs)[6]? = some 90 := rfl
    have s7 : (sealI id zs)[7]? = some 165 := rfl
    rw [s6] at g6
    rw [s7] at g7
    by_cases h6 : k = 6
    · rw [if_neg (by omega)] at g7; simp at g7
    · rw [if_neg h6] at g6; simp at g6
/-- A byte with a turn upon it. -/
def xr (a b : Int) : Int := ((a.toNat ^^^ b.toNat : Nat) : Int)
theorem xr_u8 {a b : Int} (ha : U8 a) (hb : U8 b) : U8 (xr a b) := by
  obtain ⟨a1, a2⟩ := ha
  obtain ⟨b1, b2⟩ := hb
  have : a.toNat ^^^ b.toNat < 2 ^ 8 := Nat.xor_lt_two_pow (by omega) (by omega)
  unfold xr
  exact ⟨by omega, by omega⟩
theorem xr_zero {a : Int} (ha : U8 a) : xr a 0 = a := by
  obtain ⟨a1, a2⟩ := ha
  unfold xr
  simp
  omega
theorem xr_ne {a b : Int} (ha : U8 a) (hb : U8 b) (h : b ≠ 0) : xr a b ≠ a := by
  obtain ⟨a1, a2⟩ := ha
  obtain ⟨b1, b2⟩ := hb
  unfold xr
  intro e
  have e1 : a.toNat ^^^ b.toNat = a.toNat := by omega
  have e2 : a.toNat ^^^ (a.toNat ^^^ b.toNat) = a.toNat ^^^ a.toNat := by rw [e1]
  rw [← Nat.xor_assoc, Nat.xor_self, Nat.zero_xor] at e2
  omega
theorem getD_mem {zs : List Int} {k : Nat} (h : k < zs.length) : zs.getD k 0 ∈ zs := by
  rw [List.getD_eq_getElem?_getD, List.getElem?_eq_getElem h]; exact List.getElem_mem _
theorem set_getD {zs : List Int} {k : Nat} (h : k < zs.length) : zs.set k (zs.getD k 0) = zs := by
  rw [List.getD_eq_getElem?_getD, List.getElem?_eq_getElem h]; exact List.set_getElem_self _
#print axioms open_turned
end Go.Proofs.Ytfjcbcpfhjaeeaa.PageM
