/- Chapter 3, the specification's side: what stands behind a version; versions that are right; a number's text. -/
import Derived.Test.YtbpgdagmffbagahVer2
import Derived.Deep.RegionWith
namespace Go.Proofs.Ytbpgdagmffbagah.Ver
open Go.RowKit Go.Proofs.Ytbpgdagmffbagah.Mem Go.Proofs.Ytbpgdagmffbagah.Laws Go.Proofs.Ytbpgdagmffbagah.Bytes Go.Proofs.Ytbpgdagmffbagah.Sha
set_option linter.unusedVariables false
set_option linter.unusedSimpArgs false

/-- one to four parts -/
def pre (l : List Int) : Bool := (split 46 l).all part && decide ((split 46 l).length ≤ 4)

theorem ownForm {w : World} {lo hi : Nat} {e : TypeId} {v : Value} {cs : List Value} (h : Own w lo hi e v cs) (hp : 0 < cs.length) :
    ∃ g cap, v = .slice (some ⟨g, 0, none⟩) cs.length cap ∧ lo ≤ g ∧ g < hi ∧ cs.length ≤ cap ∧ ∀ j, j < cs.length → w.cell? ⟨g, j, none⟩ = cs[j]? := by
  have hsl := h.sl
  obtain ⟨⟨h1, h2⟩, h3⟩ := h
  rcases h2 with ⟨rfl, h0⟩ | ⟨g, cap, cur, rfl, hb, hg, hnc, hcm, hcs, ht⟩
  · omega
  · refine ⟨g, cap, rfl, hb, h3 g rfl, hnc, ?_⟩
    obtain ⟨ao, cap', he, _, _, hr⟩ := hsl
    obtain ⟨b, off, hao, hcell⟩ := hr hp
    simp only [Value.slice.injEq] at he
    rw [← he.1] at hao
    simp only [Option.some.injEq, Addr.mk.injEq, and_true] at hao
    obtain ⟨rfl, rfl⟩ := hao
    intro j hj
    have := hcell j hj
    rw [Nat.zero_add] at this
    exact this
theorem splitL_pos (b : Int) : ∀ (l cur : List Int), 0 < (splitL b cur l).length := by
  intro l
  induction l with
  | nil => intro cur; simp [splitL]
  | cons c r ih => intro cur; unfold splitL; split; simp; exact ih _
theorem splitL_byt (b : Int) : ∀ (l cur : List Int), Byt l → Byt cur → ∀ p ∈ splitL b cur l, Byt p := by
  intro l
  induction l with
  | nil => intro cur hl hc p hp; simp [splitL] at hp; rw [hp]; exact hc
  | cons c r ih =>
    intro cur hl hc p hp
    have hr : Byt r := fun x hx => hl x (List.mem_cons_of_mem _ hx)
    unfold splitL at hp
    split at hp
    · rcases List.mem_cons.1 hp with rfl | hp
      · exact hc
      · exact ih [] hr (fun x hx => (by cases hx)) p hp
    · refine ih _ hr (hc.app fun x hx => ?_) p hp
      rw [List.mem_singleton] at hx
      rw [hx]
      exact hl c (List.mem_cons_self ..)
theorem sb_txtv {l : List Int} (h : Byt l) : sb (Plain.txt l) = l := by
  unfold sb Plain.txt Plain.u8s
  simp only [List.map_map]
  have e : ∀ x ∈ l, ((fun b : UInt8 => (b.toNat : Int)) ∘ fun x : Int => UInt8.ofNat x.toNat) x = x := fun x hx => Plain.u8_back (h x hx)
  rw [List.map_congr_left e]
  simp
theorem splitT_sb (b : Int) (s : ByteArray) : (splitT b s).map sb = split b (sb s) := by
  unfold splitT
  rw [List.map_map]
  conv => rhs; rw [← List.map_id (split b (sb s))]
  apply List.map_congr_left
  intro p hp
  exact sb_txtv (splitL_byt b (sb s) [] (sb_byt s) (fun x hx => (by cases hx)) p hp)
theorem splitL_size (b : Int) : ∀ (l cur : List Int), ∀ p ∈ splitL b cur l, p.length ≤ cur.length + l.length := by
  intro l
  induction l with
  | nil => intro cur p hp; simp [splitL] at hp; rw [hp]; simp
  | cons c r ih =>
    intro cur p hp
    unfold splitL at hp
    split at hp
    · rcases List.mem_cons.1 hp with rfl | hp
      · simp
      · have := ih [] p hp; simp at this; simp; omega
    · have := ih _ p hp; simp at this; simp; omega
theorem splitT_size (b : Int) (s : ByteArray) : ∀ t ∈ splitT b s, t.size ≤ s.size := by
  intro t ht
  unfold splitT at ht
  obtain ⟨p, hp, rfl⟩ := List.mem_map.1 ht
  have := splitL_size b (sb s) [] p hp
  rw [sb_len] at this
  show (Plain.txt p).data.size ≤ _
  simp [Plain.txt, Plain.u8s]
  simpa using this

/-- a version as a value -/
def ver (a b c : Int) (p : ByteArray) : Value := .agg #[.int .i64 a, .int .i64 b, .int .i64 c, .string p]
def inM (a : Int) : Bool := decide (0 ≤ a ∧ a ≤ 1000000)
def okV (a b c : Int) (p : ByteArray) : Bool := inM a && inM b && inM c && (decide (p.size = 0) || pre (sb p))

end Go.Proofs.Ytbpgdagmffbagah.Ver
