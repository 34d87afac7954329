/-
  A device of chapter 3 as numbers ('Dv'), what each call makes of it, and how it lies in memory ('Row', 'Img', 'DevAt'); no function is named here.
-/
import Derived.Test.YtfjcbcpfhjaeeaaPageMath
import Derived.Test.YtfjcbcpfhjaeeaaBlk
import Derived.Test.YtfjcbcpfhjaeeaaChecked
import Derived.Laws.IdiomCopy
import Derived.Lib.SliceRun
namespace Go.Proofs.Ytfjcbcpfhjaeeaa.Dev
open Go.RowKit
open Go.Proofs.Ytfjcbcpfhjaeeaa.SumM Go.Proofs.Ytfjcbcpfhjaeeaa.Mem Go.Proofs.Ytfjcbcpfhjaeeaa.Blk Go.Proofs.Ytfjcbcpfhjaeeaa.PageM

/-! ### Memory -/
/-- Block b holds in its first n cells the values 'f i', and may be written. -/
def Row (w : World) (b n : Nat) (f : Nat → Value) : Prop := ∃ cur t, w.heap[b]? = some (.cells cur t (0, 0)) ∧ n ≤ cur.size ∧ ∀ i, i < n → cur[i]? = some (f i)

section
variable {w w' : World} {b n : Nat} {f g : Nat → Value} {F : Nat → Prop}
theorem Row.lt (h : Row w b n f) : b < w.heap.size := by
  obtain ⟨c, t, hb, _, _⟩ := h
  exact (Array.getElem?_eq_some_iff.1 hb).1
theorem Row.cell (h : Row w b n f) {i : Nat} (hi : i < n) : w.cell? ⟨b, i, none⟩ = some (f i) := by
  obtain ⟨c, t, hb, _, hc⟩ := h
  simp [World.cell?, hb, hc i hi]
theorem Row.frozen (h : Row w b n f) (i : Nat) : w.frozen? ⟨b, i, none⟩ = false := by
  obtain ⟨c, t, hb, _, _⟩ := h
  simp [World.frozen?, hb]
theorem Row.congr (h : Row w b n f) (e : ∀ i, i < n → f i = g i) : Row w b n g := by
  obtain ⟨c, t, hb, hn, hc⟩ := h
  exact ⟨c, t, hb, hn, fun i hi => by rw [hc i hi, e i hi]⟩
theorem Row.of_block (h : Row w b n f) (e : w'.heap[b]? = w.heap[b]?) : Row w' b n f := by
  obtain ⟨c, t, hb, hn, hc⟩ := h
  exact ⟨c, t, e.trans hb, hn, hc⟩
theorem Row.kept (h : Row w b n f) (hk : Kept F w w') (hf : ¬ F b) : Row w' b n f := h.of_block (hk.block b h.lt hf)
theorem Row.grow (h : Row w b n f) (hk : Grow w w') : Row w' b n f := h.kept hk id
theorem Row.drew (h : Row w b n f) : Row w.drew b n f := h
theorem Row.less {m : Nat} (h : Row w b n f) (hm : m ≤ n) : Row w b m f := by
  obtain ⟨c, t, hb, hn, hc⟩ := h
  exact ⟨c, t, hb, by omega, fun i hi => hc i (by omega)⟩
theorem Row.set (h : Row w b n f) (i : Nat) (v : Value) : Row (w.setCell ⟨b, i, none⟩ v) b n (fun j => if j = i then v else f j) := by
  obtain ⟨c, t, hb, hn, hc⟩ := h
  refine ⟨c.setIfInBounds i v, t, ?_, by simpa using hn, fun j hj => ?_⟩
  · simp [World.setCell, Array.getElem?_modify, hb]
  · rw [Array.getElem?_setIfInBounds]
    by_cases e : j = i
    · subst e
      simp [show j < c.size by omega]
    · rw [if_neg (fun h => e h.symm)]
      show c[j]? = some (if j = i then v else f j)
      rw [if_neg e]
      exact hc j hj
theorem Row.other (h : Row w b n f) {p : Addr} (hp : b ≠ p.block) (v : Value) : Row (w.setCell p v) b n f := h.of_block (heap_setCell_other w p b v hp)
theorem Row.of_blk {t : TypeId} {cs : List Value} (h : Blk w b t cs) (hn : cs.length = n) (hf : ∀ i, i < n → cs[i]? = some (f i)) : Row w b n f :=
  ⟨cs.toArray, t, h, by simp [hn], fun i hi => by simpa using hf i hi⟩
theorem Row.of_own {base : Nat} {e : TypeId} {A : Option Addr} {c : Nat} {xs : List Value} (h : w.ownsRow base e 1 (.slice A n c) n xs) (hn : 0 < n) (hf : ∀ i, i < n → xs[i]? = some (f i)) :
    ∃ g, A = some ⟨g, 0, none⟩ ∧ base ≤ g ∧ Row w g n f ∧ n ≤ c ∧ c ≤ maxLen := by
  rcases h.2 with ⟨_, h0⟩ | ⟨g, cap, cur, hv, hb, hg, hc, hm, hs, ht⟩
  · omega
  · injection hv with h1 h2 h3
    subst h1 h3
    refine ⟨g, rfl, hb, ⟨cur, e, hg, by omega, fun i hi => ?_⟩, hc, hm⟩
    have := hf i hi
    rw [← ht, List.getElem?_take, if_pos (by omega)] at this
    simpa using this
end

theorem kept_set (w : World) (b i : Nat) (v : Value) : Kept (fun x => x = b) w (w.setCell ⟨b, i, none⟩ v) := (Kept.refl (fun x => x = b) w).setCell (p := ⟨b, i, none⟩) (fun _ => rfl) v

/-- A row of numbers. -/
abbrev NRow (w : World) (g n : Nat) (k : IntKind) (zs : List Int) : Prop := Row w g n fun i => .int k (zs.getD i 0)
theorem Sl.of_row0 {w : World} {g n B : Nat} {k : IntKind} {zs : List Int} (h : NRow w g n k zs) (hl : zs.length = n) (hB : g < B) : Sl w B k (some ⟨g, 0, none⟩) n zs :=
  ⟨hl, fun _ => ⟨g, 0, rfl, hB, fun j hj => by rw [Nat.zero_add]; exact Row.cell h hj⟩⟩

/-- An image: twenty-four bytes in a block that is none of G. -/
def Img (w : World) (G : Nat → Prop) (v : Value) (zs : List Int) : Prop :=
  ∃ b c, v = .slice (some ⟨b, 0, none⟩) 24 c ∧ 24 ≤ c ∧ c ≤ maxLen ∧ ¬ G b ∧ b < w.heap.size ∧ zs.length = 24 ∧ Bytes zs ∧ ∀ j, j < 24 → w.cell? ⟨b, j, none⟩ = some (.int .u8 (zs.getD j 0))
/-- One that may be missing. -/
def WImg (w : World) (G : Nat → Prop) (v : Value) : Option (List Int) → Prop
  | none => v = .slice none 0 0
  | some zs => Img w G v zs

section
variable {w w' : World} {G G' F : Nat → Prop} {v : Value} {zs : List Int} {o : Option (List Int)}
theorem Img.kept (h : Img w G v zs) (hk : Kept F w w') (hF : ∀ k, F k → G k) : Img w' G v zs := by
  obtain ⟨b, c, rfl, h1, h2, h3, h4, h5, h6, h7⟩ := h
  exact ⟨b, c, rfl, h1, h2, h3, Nat.lt_of_lt_of_le h4 hk.size, h5, h6, fun j hj => (hk.cell (p := ⟨b, j, none⟩) h4 (fun x => h3 (hF b x))).trans (h7 j hj)⟩
theorem Img.turn (h : Img w G v zs) (hg : ∀ k, k < w.heap.size → G' k → G k) : Img w G' v zs := by
  obtain ⟨b, c, rfl, h1, h2, h3, h4, h5⟩ := h
  exact ⟨b, c, rfl, h1, h2, fun x => h3 (hg b h4 x), h4, h5⟩
theorem WImg.kept (h : WImg w G v o) (hk : Kept F w w') (hF : ∀ k, F k → G k) : WImg w' G v o := by
  cases o with
  | none => exact h
  | some zs => exact Img.kept h hk hF
theorem WImg.turn (h : WImg w G v o) (hg : ∀ k, k < w.heap.size → G' k → G k) : WImg w G' v o := by
  cases o with
  | none => exact h
  | some zs => exact Img.turn h hg
theorem Img.bytes (h : Img w G v zs) : Bytes zs := by obtain ⟨b, c, rfl, _, _, _, _, _, h6, _⟩ := h; exact h6
theorem Img.len (h : Img w G v zs) : zs.length = 24 := by obtain ⟨b, c, rfl, _, _, _, _, h5, _⟩ := h; exact h5
/-- What an image is, for whoever reads it. -/
theorem Img.sl (h : Img w G v zs) : ∃ b c, v = .slice (some ⟨b, 0, none⟩) 24 c ∧ 24 ≤ c ∧ c ≤ maxLen ∧ Sl w w.heap.size .u8 (some ⟨b, 0, none⟩) 24 zs := by
  obtain ⟨b, c, rfl, h1, h2, h3, h4, h5, h6, h7⟩ := h
  exact ⟨b, c, rfl, h1, h2, h5, fun _ => ⟨b, 0, rfl, h4, fun j hj => by rw [Nat.zero_add]; exact h7 j hj⟩⟩
theorem Img.of_row {g c : Nat} (h : NRow w g 24 .u8 zs) (hl : zs.length = 24) (hz : Bytes zs) (h1 : 24 ≤ c) (h2 : c ≤ maxLen) (hg : ¬ G g) : Img w G (.slice (some ⟨g, 0, none⟩) 24 c) zs :=
  ⟨g, c, rfl, h1, h2, hg, Row.lt h, hl, hz, fun _ hj => Row.cell h hj⟩
end

/-! ### A device -/
structure Dv where
  N : Nat
  dur : Nat → List Int
  wr : Nat → Option (List Int)
  n : Nat
  bad : Nat
  down : Bool

/-- What an access makes, and its code. -/
def accS (S : Dv) : Dv := if S.down then S else { S with n := S.n + 1, bad := S.bad - 1 }
def accC (S : Dv) : Int := if S.down then 12 else if S.bad = 1 then 9 else 0
def hasI (S : Dv) (p : Int) : Bool := decide (0 ≤ p) && decide (p < S.N)
def cur (S : Dv) (p : Nat) : List Int := (S.wr p).getD (S.dur p)
def readS (S : Dv) (p : Int) : Dv := if hasI S p then accS S else S
def readC (S : Dv) (p : Int) : Int := if hasI S p then accC S else 1
def readB (S : Dv) (p : Int) : List Int := if readC S p = 0 then cur S p.toNat else []
def writeC (S : Dv) (p : Int) (n : Nat) : Int := if hasI S p && n == 24 then accC S else 1
def putS (S : Dv) (p : Nat) (zs : List Int) : Dv := { S with wr := fun q => if q = p then some zs else S.wr q }
def writeS (S : Dv) (p : Int) (zs : List Int) : Dv := if hasI S p && zs.length == 24 then (if accC S = 0 then putS (accS S) p.toNat zs else accS S) else S
def flushS (S : Dv) : Dv := { S with dur := fun p => cur S p, wr := fun _ => none }
def syncS (S : Dv) : Dv := if accC S = 0 then flushS (accS S) else accS S
def failB (n : Int) : Bool := decide (0 ≤ n) && decide (n ≤ 1000000)
def failS (S : Dv) (n : Int) : Dv := if failB n then { S with bad := n.toNat } else S
/-- How many pages wait ahead of page p. -/
def cnt (S : Dv) : Nat → Nat
  | 0 => 0
  | p + 1 => cnt S p + (if (S.wr p).isSome then 1 else 0)
/-- The two bits of the t-th page that waits. -/
def fate (bits : List Int) (t : Nat) : Nat := if t / 4 < bits.length then (bits.getD (t / 4) 0).toNat / 2 ^ (t % 4 * 2) % 4 else 0
def settleI (f : Nat) (was now : List Int) : List Int := if f = 1 then now else if f = 2 then now.take 12 ++ was.drop 12 else if f = 3 then was.take 12 ++ now.drop 12 else was
def fallen (S : Dv) (bits : List Int) (p : Nat) : List Int := match S.wr p with | none => S.dur p | some z => settleI (fate bits (cnt S p)) (S.dur p) z
def crashS (S : Dv) (bits : List Int) : Dv := if S.down then S else { S with dur := fallen S bits, wr := fun _ => none, down := true }
/-- The numbers of the pages that wait, of the first p. -/
def waitL (S : Dv) : Nat → List Int
  | 0 => []
  | p + 1 => if (S.wr p).isSome then waitL S p ++ [(p : Int)] else waitL S p
def newS (N : Nat) : Dv := { N := N, dur := fun _ => zeros 24, wr := fun _ => none, n := 0, bad := 0, down := false }

theorem settle_len {f : Nat} {a b : List Int} (ha : a.length = 24) (hb : b.length = 24) : (settleI f a b).length = 24 := by
  unfold settleI
  split
  · exact hb
  · split
    · simp [ha, hb]
    · split
      · simp [ha, hb]
      · exact ha
theorem settle_bytes {f : Nat} {a b : List Int} (ha : Bytes a) (hb : Bytes b) : Bytes (settleI f a b) := by
  unfold settleI
  split
  · exact hb
  · split
    · intro c hc
      rcases List.mem_append.1 hc with h | h
      · exact hb c (List.mem_of_mem_take h)
      · exact ha c (List.mem_of_mem_drop h)
    · split
      · intro c hc
        rcases List.mem_append.1 hc with h | h
        · exact ha c (List.mem_of_mem_take h)
        · exact hb c (List.mem_of_mem_drop h)
      · exact ha
theorem fate_lt (bits : List Int) (t : Nat) : fate bits t < 4 := by
  unfold fate; split
  · exact Nat.mod_lt _ (by omega)
  · omega
theorem settle_zero (a b : List Int) : settleI 0 a b = a := rfl

/-- The three blocks of a device's own. -/
def Own (d D W : Nat) (k : Nat) : Prop := k = d ∨ k = D ∨ k = W

structure DevAt (w : World) (d D W : Nat) (G : Nat → Prop) (S : Dv) : Prop where
  disk : Blk w d 56 [.slice (some ⟨D, 0, none⟩) S.N S.N, .slice (some ⟨W, 0, none⟩) S.N S.N, .int .i64 S.n, .int .i64 S.bad, .bool S.down]
  dur : ∃ dv, Row w D S.N dv ∧ ∀ p, p < S.N → Img w G (dv p) (S.dur p)
  wr : ∃ wv, Row w W S.N wv ∧ ∀ p, p < S.N → WImg w G (wv p) (S.wr p)
  ne : d ≠ D ∧ d ≠ W ∧ D ≠ W
  own : ∀ k, Own d D W k → G k
  size : 1 ≤ S.N ∧ S.N ≤ 48

section
variable {w w' : World} {d D W : Nat} {G G' F : Nat → Prop} {S : Dv}
/-- Blocks of G that are not the device's own may be written. -/
theorem DevAt.kept (h : DevAt w d D W G S) (hk : Kept F w w') (hF : ∀ k, F k → G k) (hO : ∀ k, Own d D W k → ¬ F k) : DevAt w' d D W G S := by
  obtain ⟨dv, h1, h2⟩ := h.dur
  obtain ⟨wv, h3, h4⟩ := h.wr
  exact ⟨h.disk.kept hk (hO d (.inl rfl)), ⟨dv, h1.kept hk (hO D (.inr (.inl rfl))), fun p hp => (h2 p hp).kept hk hF⟩, ⟨wv, h3.kept hk (hO W (.inr (.inr rfl))), fun p hp => (h4 p hp).kept hk hF⟩, h.ne, h.own, h.size⟩
theorem DevAt.grow (h : DevAt w d D W G S) (hk : Grow w w') : DevAt w' d D W G S := h.kept hk (fun _ x => x.elim) (fun _ _ x => x)
theorem DevAt.drew (h : DevAt w d D W G S) : DevAt w.drew d D W G S := h.grow (Kept.drew' w)
/-- Another G, which has no older blocks more. -/
theorem DevAt.turn (h : DevAt w d D W G S) (hg : ∀ k, k < w.heap.size → G' k → G k) (ho : ∀ k, Own d D W k → G' k) : DevAt w d D W G' S := by
  obtain ⟨dv, h1, h2⟩ := h.dur
  obtain ⟨wv, h3, h4⟩ := h.wr
  exact ⟨h.disk, ⟨dv, h1, fun p hp => (h2 p hp).turn hg⟩, ⟨wv, h3, fun p hp => (h4 p hp).turn hg⟩, h.ne, ho, h.size⟩
/-- Blocks that are new since are none of the device's. -/
theorem DevAt.newer (h : DevAt w d D W G S) (hk : Grow w w') : DevAt w' d D W (fun k => G k ∨ w.heap.size ≤ k) S :=
  (h.turn (G' := fun k => G k ∨ w.heap.size ≤ k) (fun k hk hg => hg.elim id (fun x => absurd x (by omega))) (fun k x => .inl (h.own k x))).grow hk
/-- One block that is new since, as one that the device does not have. -/
theorem DevAt.also {g : Nat} (h : DevAt w d D W G S) (hk : Grow w w') (hg : w.heap.size ≤ g) : DevAt w' d D W (fun k => G k ∨ k = g) S :=
  (h.turn (G' := fun k => G k ∨ k = g) (fun k hk hg' => hg'.elim id (fun x => absurd x (by omega))) (fun k x => .inl (h.own k x))).grow hk
theorem DevAt.lt (h : DevAt w d D W G S) : d < w.heap.size ∧ D < w.heap.size ∧ W < w.heap.size := by
  obtain ⟨dv, h1, _⟩ := h.dur
  obtain ⟨wv, h3, _⟩ := h.wr
  exact ⟨h.disk.lt, h1.lt, h3.lt⟩
theorem DevAt.c0 (h : DevAt w d D W G S) : w.cell? ⟨d, 0, none⟩ = some (.slice (some ⟨D, 0, none⟩) S.N S.N) := by rw [h.disk.cell]; rfl
theorem DevAt.c1 (h : DevAt w d D W G S) : w.cell? ⟨d, 1, none⟩ = some (.slice (some ⟨W, 0, none⟩) S.N S.N) := by rw [h.disk.cell]; rfl
theorem DevAt.c2 (h : DevAt w d D W G S) : w.cell? ⟨d, 2, none⟩ = some (.int .i64 S.n) := by rw [h.disk.cell]; rfl
theorem DevAt.c3 (h : DevAt w d D W G S) : w.cell? ⟨d, 3, none⟩ = some (.int .i64 S.bad) := by rw [h.disk.cell]; rfl
theorem DevAt.c4 (h : DevAt w d D W G S) : w.cell? ⟨d, 4, none⟩ = some (.bool S.down) := by rw [h.disk.cell]; rfl
theorem DevAt.fr (h : DevAt w d D W G S) (i : Nat) : w.frozen? ⟨d, i, none⟩ = false := h.disk.frozen i
/-- A store into the device's own fields. -/
theorem DevAt.field {S' : Dv} {i : Nat} {v : Value} (h : DevAt w d D W G S) (hN : S'.N = S.N) (hd : S'.dur = S.dur) (hw : S'.wr = S.wr)
    (hv : [.slice (some ⟨D, 0, none⟩) S.N S.N, .slice (some ⟨W, 0, none⟩) S.N S.N, .int .i64 S'.n, .int .i64 S'.bad, .bool S'.down] = ([.slice (some ⟨D, 0, none⟩) S.N S.N, .slice (some ⟨W, 0, none⟩) S.N S.N, .int .i64 S.n, .int .i64 S.bad, .bool S.down] : List Value).set i v) :
    DevAt (w.setCell ⟨d, i, none⟩ v) d D W G S' := by
  obtain ⟨N, du, wr, n, bad, down⟩ := S
  obtain ⟨N', du', wr', n', bad', down'⟩ := S'
  simp only at hN hd hw hv
  subst hN hd hw
  have hk : Kept (· = d) w (w.setCell ⟨d, i, none⟩ v) := (Kept.refl (fun x => x = d) w).setCell (p := ⟨d, i, none⟩) (fun _ => rfl) v
  obtain ⟨dv, h1, h2⟩ := h.dur
  obtain ⟨wv, h3, h4⟩ := h.wr
  refine ⟨?_, ⟨dv, h1.kept hk (fun e => h.ne.1 e.symm), fun p hp => (h2 p hp).kept hk (fun k e => e ▸ h.own d (.inl rfl))⟩, ⟨wv, h3.kept hk (fun e => h.ne.2.1 e.symm), fun p hp => (h4 p hp).kept hk (fun k e => e ▸ h.own d (.inl rfl))⟩, h.ne, h.own, h.size⟩
  show Blk _ _ _ _
  rw [hv]
  exact h.disk.set i v
/-- An image goes into the row of what waits, or of what is durable. -/
theorem DevAt.putW {k : Nat} {v : Value} {zs : List Int} (h : DevAt w d D W G S) (hi : Img w G v zs) : DevAt (w.setCell ⟨W, k, none⟩ v) d D W G (putS S k zs) := by
  have hk : Kept (fun x => x = W) w (w.setCell ⟨W, k, none⟩ v) := (Kept.refl (fun x => x = W) w).setCell (p := ⟨W, k, none⟩) (fun _ => rfl) v
  have hG : ∀ x, x = W → G x := fun x e => e ▸ h.own W (.inr (.inr rfl))
  obtain ⟨dv, h1, h2⟩ := h.dur
  obtain ⟨wv, h3, h4⟩ := h.wr
  refine ⟨h.disk.kept hk h.ne.2.1, ⟨dv, h1.kept hk h.ne.2.2, fun p hp => (h2 p hp).kept hk hG⟩, ⟨_, h3.set k v, fun p hp => ?_⟩, h.ne, h.own, h.size⟩
  show WImg _ _ _ (if p = k then some zs else S.wr p)
  by_cases e : p = k
  · rw [if_pos e, if_pos e]
    exact Img.kept hi hk hG
  · rw [if_neg e, if_neg e]
    exact (h4 p hp).kept hk hG
theorem DevAt.putD {k : Nat} {v : Value} {zs : List Int} (h : DevAt w d D W G S) (hi : Img w G v zs) : DevAt (w.setCell ⟨D, k, none⟩ v) d D W G { S with dur := fun q => if q = k then zs else S.dur q } := by
  have hk : Kept (fun x => x = D) w (w.setCell ⟨D, k, none⟩ v) := (Kept.refl (fun x => x = D) w).setCell (p := ⟨D, k, none⟩) (fun _ => rfl) v
  have hG : ∀ x, x = D → G x := fun x e => e ▸ h.own D (.inr (.inl rfl))
  obtain ⟨dv, h1, h2⟩ := h.dur
  obtain ⟨wv, h3, h4⟩ := h.wr
  refine ⟨h.disk.kept hk h.ne.1, ⟨_, h1.set k v, fun p hp => ?_⟩, ⟨wv, h3.kept hk (fun e => h.ne.2.2 e.symm), fun p hp => (h4 p hp).kept hk hG⟩, h.ne, h.own, h.size⟩
  show Img _ _ _ (if p = k then zs else S.dur p)
  by_cases e : p = k
  · rw [if_pos e, if_pos e]
    exact Img.kept hi hk hG
  · rw [if_neg e, if_neg e]
    exact (h2 p hp).kept hk hG
theorem kept_setCells {b : Nat} : ∀ (vs : List Value) (o : Nat) (w : World), Kept (fun x => x = b) w (w.setCells b o vs)
  | [], _, w => Kept.refl _ w
  | v :: r, o, w => ((Kept.refl (fun x => x = b) w).setCell (p := ⟨b, o, none⟩) (fun _ => rfl) v).trans (kept_setCells r (o + 1) _)
theorem Row.clear {b n : Nat} {z : Value} : ∀ (m o : Nat) (w : World) (f : Nat → Value), Row w b n f → Row (w.setCells b o (List.replicate m z)) b n (fun j => if o ≤ j ∧ j < o + m then z else f j)
  | 0, o, w, f, h => h.congr fun i _ => by rw [if_neg (by omega)]
  | m + 1, o, w, f, h => by
    rw [List.replicate_succ, World.setCells]
    refine (Row.clear m (o + 1) _ _ (h.set o z)).congr fun i _ => ?_
    by_cases h1 : o + 1 ≤ i ∧ i < o + 1 + m
    · rw [if_pos h1, if_pos (by omega)]
    · rw [if_neg h1]
      by_cases h2 : i = o
      · rw [if_pos h2, if_pos (by omega)]
      · rw [if_neg h2, if_neg (by omega)]
theorem DevAt.clear (h : DevAt w d D W G S) : DevAt (w.setCells W 0 (List.replicate S.N (.slice none 0 0))) d D W G { S with wr := fun _ => none } := by
  have hk := kept_setCells (b := W) (List.replicate S.N (.slice none 0 0)) 0 w
  have hG : ∀ x, x = W → G x := fun x e => e ▸ h.own W (.inr (.inr rfl))
  obtain ⟨dv, h1, h2⟩ := h.dur
  obtain ⟨wv, h3, h4⟩ := h.wr
  refine ⟨h.disk.kept hk h.ne.2.1, ⟨dv, h1.kept hk h.ne.2.2, fun p hp => (h2 p hp).kept hk hG⟩, ⟨_, Row.clear S.N 0 w wv h3, fun p hp => ?_⟩, h.ne, h.own, h.size⟩
  show (if 0 ≤ p ∧ p < 0 + S.N then _ else _) = _
  rw [if_pos ⟨by omega, by simpa using hp⟩]
/-- The same device said otherwise. -/
theorem DevAt.congr {S' : Dv} (h : DevAt w d D W G S) (hN : S'.N = S.N) (hn : S'.n = S.n) (hb : S'.bad = S.bad) (hd : S'.down = S.down) (h1 : ∀ p, p < S.N → S'.dur p = S.dur p) (h2 : ∀ p, p < S.N → S'.wr p = S.wr p) : DevAt w d D W G S' := by
  obtain ⟨dv, a1, a2⟩ := h.dur
  obtain ⟨wv, a3, a4⟩ := h.wr
  refine ⟨by rw [hN, hn, hb, hd]; exact h.disk, ⟨dv, by rw [hN]; exact a1, fun p hp => ?_⟩, ⟨wv, by rw [hN]; exact a3, fun p hp => ?_⟩, h.ne, h.own, by rw [hN]; exact h.size⟩
  · rw [hN] at hp; rw [h1 p hp]; exact a2 p hp
  · rw [hN] at hp; rw [h2 p hp]; exact a4 p hp
/-- The images of a device have their size. -/
theorem DevAt.durOk (h : DevAt w d D W G S) {p : Nat} (hp : p < S.N) : (S.dur p).length = 24 ∧ Bytes (S.dur p) := by
  obtain ⟨dv, _, h2⟩ := h.dur
  exact ⟨(h2 p hp).len, (h2 p hp).bytes⟩
theorem DevAt.wrOk (h : DevAt w d D W G S) {p : Nat} {z : List Int} (hp : p < S.N) (hz : S.wr p = some z) : z.length = 24 ∧ Bytes z := by
  obtain ⟨wv, _, h4⟩ := h.wr
  have h5 := h4 p hp
  rw [hz] at h5
  have h6 : Img w G (wv p) z := h5
  exact ⟨h6.len, h6.bytes⟩
theorem DevAt.curOk (h : DevAt w d D W G S) {p : Nat} (hp : p < S.N) : (cur S p).length = 24 ∧ Bytes (cur S p) := by
  unfold cur
  cases e : S.wr p with
  | none => exact h.durOk hp
  | some z => exact h.wrOk hp e
end
#print axioms DevAt.field
end Go.Proofs.Ytfjcbcpfhjaeeaa.Dev
