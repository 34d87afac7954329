/-
  Slices of slices of the call's own ('Rs': rows nil or of the call's own, all apart), one row more; the run of a clone. No function is named here.
-/
import Derived.Test.YtjdlpknflhgkfaaPm
import Derived.Test.YtjdlpknflhgkfaaGs
namespace Go.Proofs.Ytjdlpknflhgkfaa.PmR
open Go.ChangeShapes Go.WideShapes Go.ChangeAt Go.RowKit
open Go.Proofs.Ytjdlpknflhgkfaa.Mem Go.Proofs.Ytjdlpknflhgkfaa.Blk Go.Proofs.Ytjdlpknflhgkfaa.Cells Go.Proofs.Ytjdlpknflhgkfaa.Orow Go.Proofs.Ytjdlpknflhgkfaa.MdM Go.Proofs.Ytjdlpknflhgkfaa.PmC

theorem add_off (b o j : Nat) : (⟨b, o, none⟩ : Addr).add j = ⟨b, o + j, none⟩ := by unfold Addr.add; split <;> simp_all
/-- Cells of numbers. -/
def ncl (k : IntKind) (zs : List Int) (j : Nat) : Value := .int k (zs.getD j 0)
/-- Rows of numbers of the call's own, told by a slice of its own. -/
structure Rs (w : World) (G : Nat → Prop) (v : Value) (tr te : TypeId) (k : IntKind) (n : Nat) (V : Nat → Value) (L : Nat → List Int) : Prop where
  out : OS w G v tr 1 n V
  row : ∀ i, i < n → OS w G (V i) te 1 (L i).length (ncl k (L i))
  off : ∀ i, i < n → ∀ r, (V i).ownBlock = some r → v.ownBlock ≠ some r
  ne : ∀ i j, i < n → j < n → i ≠ j → ∀ r, (V i).ownBlock = some r → (V j).ownBlock ≠ some r
section
variable {w w' : World} {G F X : Nat → Prop} {v x : Value} {tr te : TypeId} {k : IntKind} {n g cap : Nat} {V : Nat → Value} {L : Nat → List Int}
theorem os_mono {t : TypeId} {s : Nat} {f : Nat → Value} (h : OS w G v t s n f) (hX : ∀ k, k < w.heap.size → G k → X k) : OS w X v t s n f := GrC.os_mono h hX
theorem os_grow {t : TypeId} {s : Nat} {f : Nat → Value} (h : OS w G v t s n f) (hk : Grow w w') : OS w' G v t s n f := h.kept hk fun _ _ x => x
theorem os_in {t : TypeId} {s : Nat} {f : Nat → Value} (h : OS w G v t s n f) {k : Nat} (hk : v.ownBlock = some k) : G k ∧ k < w.heap.size := h.own.2 k hk
theorem os_keep {t : TypeId} {s : Nat} {f : Nat → Value} (h : OS w G v t s n f) (hk : Kept F w w') (hF : ∀ k, v.ownBlock = some k → ¬ F k) : OS w' G v t s n f := by
  rcases h with x | ⟨g, cap, rfl, ho, hg⟩
  · exact .inl x
  · exact .inr ⟨g, cap, rfl, ho.kept hk (hF g rfl), hg⟩
theorem os_form {t : TypeId} {s : Nat} {f : Nat → Value} (h : OS w G v t s n f) : ∃ A c, v = .slice A n c := by
  rcases h with ⟨rfl, rfl⟩ | ⟨g, cap, rfl, _⟩
  · exact ⟨_, _, rfl⟩
  · exact ⟨_, _, rfl⟩
theorem os_one {t : TypeId} {s : Nat} {f : Nat → Value} (h : OS w G v t s n f) : v.oneCell' = true := by
  rcases h with ⟨rfl, _⟩ | ⟨g, cap, rfl, _⟩ <;> rfl
theorem Rs.grow (h : Rs w G v tr te k n V L) (hk : Grow w w') : Rs w' G v tr te k n V L :=
  ⟨os_grow h.out hk, fun i hi => os_grow (h.row i hi) hk, h.off, h.ne⟩
theorem rs_nil (w : World) (G : Nat → Prop) (tr te : TypeId) (k : IntKind) (V : Nat → Value) (L : Nat → List Int) : Rs w G (.slice none 0 0) tr te k 0 V L :=
  ⟨.inl ⟨rfl, rfl⟩, fun i hi => absurd hi (Nat.not_lt_zero i), fun i hi => absurd hi (Nat.not_lt_zero i), fun i _ hi => absurd hi (Nat.not_lt_zero i)⟩
def up (V : Nat → Value) (n : Nat) (x : Value) (i : Nat) : Value := if i = n then x else V i
theorem up_same : up V n x n = x := if_pos rfl
theorem up_other {i : Nat} (h : i < n) : up V n x i = V i := if_neg (by omega)
theorem Rs.push (h : Rs w G v tr te k n V L) (hx : OS w G x te 1 (L n).length (ncl k (L n))) (hnr : ∀ i, i < n → ∀ r, (V i).ownBlock = some r → x.ownBlock ≠ some r) (hvr : ∀ r, x.ownBlock = some r → v.ownBlock ≠ some r)
    (ho : OR w' g tr 1 cap (n + 1) (joined V (fun _ => x) (n * 1))) (hk : Kept (fun k => v.ownBlock = some k) w w') (hg : v.ownBlock = some g ∨ g = w.heap.size) (hnew : ∀ k, w.heap.size ≤ k → G k) :
    Rs w' G (.slice (some ⟨g, 0, none⟩) (n + 1) cap) tr te k (n + 1) (up V n x) L := by
  have hgG : G g := by
    rcases hg with e | e
    · exact (os_in h.out e).1
    · exact hnew _ (by omega)
  have hgr : x.ownBlock ≠ some g := fun e2 => by
    rcases hg with e | e
    · exact hvr g e2 e
    · have := (os_in hx e2).2; omega
  refine ⟨.inr ⟨g, cap, rfl, ho.congr fun i hi => ?_, hgG⟩, fun i hi => ?_, fun i hi r hr => ?_, fun i j hi hj hij r hr => ?_⟩
  · unfold joined
    by_cases e : i < n
    · rw [if_pos (by omega), up_other e]
    · have : i = n := by omega
      subst this
      rw [if_neg (by omega), up_same]
  · by_cases e : i < n
    · rw [up_other e]
      exact os_keep (h.row i e) hk fun r hr e2 => h.off i e r hr e2
    · have : i = n := by omega
      subst this
      rw [up_same]
      exact os_keep hx hk fun r hr e2 => hvr r hr e2
  · show some g ≠ some r
    rintro e2
    injection e2 with e2
    subst e2
    by_cases e : i < n
    · rw [up_other e] at hr
      rcases hg with y | y
      · exact h.off i e g hr y
      · have := (os_in (h.row i e) hr).2; omega
    · have : i = n := by omega
      subst this
      rw [up_same] at hr
      exact hgr hr
  · by_cases e1 : i < n
    · rw [up_other e1] at hr
      by_cases e2 : j < n
      · rw [up_other e2]
        exact h.ne i j e1 e2 hij r hr
      · have : j = n := by omega
        subst this
        rw [up_same]
        exact hnr i e1 r hr
    · have : i = n := by omega
      subst this
      rw [up_same] at hr
      have e2 : j < i := by omega
      rw [up_other e2]
      exact fun e3 => hnr j e2 r e3 hr
/-- Rows are read. -/
theorem os_sl {zs : List Int} (h : OS w G v te 1 n (ncl k zs)) (hz : zs.length = n) : ∃ A c, v = .slice A n c ∧ Sl w w.heap.size k A n zs := by
  rcases h with ⟨rfl, rfl⟩ | ⟨g, cap, rfl, ho, _⟩
  · exact ⟨none, 0, rfl, hz, fun h => absurd h (by omega)⟩
  · exact ⟨_, _, rfl, hz, fun hn => ⟨g, 0, rfl, ho.lt, fun j hj => by rw [Nat.zero_add]; exact ho.cell (by omega)⟩⟩
theorem Rs.lists (h : Rs w G v tr te k n V L) : ∃ A c, v = .slice A n c ∧ Lists w k A n L := by
  rcases h.out with ⟨rfl, rfl⟩ | ⟨g, cap, rfl, ho, _⟩
  · exact ⟨none, 0, rfl, fun h => absurd h (by omega)⟩
  · refine ⟨_, _, rfl, fun hn => ⟨g, 0, rfl, fun i hi => ?_⟩⟩
    obtain ⟨A', c, e, hs⟩ := os_sl (h.row i hi) rfl
    refine ⟨A', c, ?_, hs⟩
    rw [Nat.zero_add, ← e]
    exact ho.cell (by omega)
theorem os_flags {T : Nat → Bool} (h : OS w G v te 1 n (MdC.tcell T)) : ∃ A c, v = .slice A n c ∧ Flags w A n T := by
  rcases h with ⟨rfl, rfl⟩ | ⟨g, cap, rfl, ho, _⟩
  · exact ⟨none, 0, rfl, fun h => absurd h (by omega)⟩
  · exact ⟨_, _, rfl, fun hn => ⟨g, 0, rfl, fun i hi => by rw [Nat.zero_add]; exact ho.cell (by omega)⟩⟩
/-- 'append([]T{}, s...)', s no nil slice. -/
theorem clone_run {P : Program} {w : World} {n : Nat} {f : Nat → Value} (T e : TypeId) (z : Value) (bytes : Nat) (hT : P.underlying T = some (.slice e))
    (hinfo : (P.info? e).map (fun i => (i.zero, i.size, i.bytes)) = some (some z, 1, bytes)) (hzs : z.cells.size = 1) (hb : bytes ≤ 1000) (a : Addr) (hc : 0 < n → ∃ b off, a = ⟨b, off, none⟩ ∧ ∀ j, j < n → w.cell? ⟨b, off + j, none⟩ = some (f j)) (h1 : ∀ j, j < n → (f j).oneCell' = true) (c : Nat) (hn : n ≤ 100000) :
    ∃ v' w', (∀ ty, (Builtin.append_ #[T, T] ty #[.slice (some ⟨w.heap.size, 0, none⟩) 0 0, .slice (some a) n c]).run P (w.alloc (.cells #[] e)) = .ok v' w') ∧ OS w' (w.heap.size ≤ ·) v' e 1 n f ∧ v' ≠ .slice none 0 0 ∧ Grow w w' := by
  obtain ⟨i, hi, hz, hs, hby⟩ := info_parts hinfo
  have hown : (w.alloc (.cells #[] e)).ownsRow w.heap.size e 1 (.slice (some ⟨w.heap.size, 0, none⟩) 0 0) 0 [] :=
    ⟨rfl, .inr ⟨_, 0, #[], rfl, Nat.le_refl _, heap_alloc_new w _, Nat.le_refl _, Nat.zero_le _, rfl, rfl⟩⟩
  obtain ⟨v', w', hr, h2, h3, h4, _⟩ := run_append_own_at (P := P) (w := w.alloc (.cells #[] e)) w.heap.size T 0 e i z 1 bytes hT hi hz hs hby hzs (by omega) _ 0 [] hown a n c ((List.range n).map f) (by simp)
    (fun j u hj => by
      have hjn : j < n := by
        have := (List.getElem?_eq_some_iff.1 hj).1
        simpa using this
      obtain ⟨b, off, rfl, hcc⟩ := hc (by omega)
      rw [add_off]
      refine Lib.cell?_alloc_some _ ?_
      rw [hcc j hjn, ← hj]
      simp [hjn])
    (fun u hu => by
      obtain ⟨j, hj, rfl⟩ := List.mem_map.1 hu
      exact h1 j (List.mem_range.1 hj)) (by unfold maxLen; omega) (by
        have : (0 + n) * bytes ≤ 100000 * 1000 := Nat.mul_le_mul (by omega) hb
        omega) (by simp)
  rw [Nat.zero_add, List.nil_append] at h2
  refine ⟨v', w', fun ty => hr, ?_, (fun e0 => by simpa using (h4.1 e0).1), ((Kept.refl _ w).alloc _).grown h3 fun k hk hlt => ?_⟩
  · rcases h2.2 with ⟨e0, e1⟩ | ⟨g, cap, cur, e0, hbg, hcur, hle, hmax, hsz, htake⟩
    · exact .inl ⟨e0, e1⟩
    · refine .inr ⟨g, cap, e0, ⟨cur, hcur, hsz, hle, hmax, fun j hj => ?_⟩, hbg⟩
      have hjn : j < n := by omega
      have : (cur.toList.take (n * 1))[j]? = ((List.range n).map f)[j]? := by rw [htake]
      rw [List.getElem?_take, if_pos hj] at this
      simpa [hjn] using this
  · simp [Value.ownBlock] at hk
    omega
end
#print axioms clone_run
end Go.Proofs.Ytjdlpknflhgkfaa.PmR
