/- Texts in one: Ent9, EntR, Fg3, Fg4, EntU. -/
import Derived.Test.YtlhmemnaiobgkaaGreatDoorPk14
import Derived.Test.YtlhmemnaiobgkaaGreatDoorPk13
import Derived.Test.YtlhmemnaiobgkaaGreatDoorPk6
import Derived.Lib.ConvBytes
import Derived.Lib.AtoiErrMem
/- Chapter 5, the specification's side: an entry read of its text. -/
namespace Go.Proofs.YtlhmemnaiobgkaaGreatDoor.Ent
open Go.RowKit Go.Proofs.YtlhmemnaiobgkaaGreatDoor.Mem Go.Proofs.YtlhmemnaiobgkaaGreatDoor.Laws Go.Proofs.YtlhmemnaiobgkaaGreatDoor.Bytes Go.Proofs.YtlhmemnaiobgkaaGreatDoor.Sha Go.Proofs.YtlhmemnaiobgkaaGreatDoor.Ver Go.Proofs.YtlhmemnaiobgkaaGreatDoor.Mod
set_option linter.unusedVariables false
set_option linter.unusedSimpArgs false

/-- the needs whose names these are -/
def needsOf : List ByteArray → Option (List Nd)
  | [] => some []
  | t :: r => if (pname t).2 = true then (needsOf r).map fun l => (pname t).1 :: l else none
def no5 : Nd × List Nd × Bool := (nil5, [], false)
def get5e (n : Nd) (l : List Nd) : Nd × List Nd × Bool := if entry5 n l = true then (n, l, true) else no5
def get5t (n : Nd) (ts : List ByteArray) : Nd × List Nd × Bool := match needsOf ts with
  | some l => get5e n l
  | none => no5
/-- the entry whose text s is -/
def get5 (s : ByteArray) : Nd × List Nd × Bool :=
  if (Plain.getText (sb s) 0).2.2 = true ∧ (Plain.getTexts (sb s) (Plain.getText (sb s) 0).2.1).2.2 = true ∧ (pname (Plain.getText (sb s) 0).1).2 = true ∧ (Plain.getTexts (sb s) (Plain.getText (sb s) 0).2.1).2.1 = (s.size : Int)
  then get5t (pname (Plain.getText (sb s) 0).1).1 (Plain.getTexts (sb s) (Plain.getText (sb s) 0).2.1).1 else no5

theorem needsOf_app : ∀ (a : List ByteArray) (t : ByteArray), needsOf (a ++ [t]) = match needsOf a with
    | some l => if (pname t).2 = true then some (l ++ [(pname t).1]) else none
    | none => none := by
  intro a
  induction a with
  | nil => intro t; simp [needsOf]
  | cons x r ih =>
    intro t
    simp only [List.cons_append, needsOf, ih]
    split
    · cases needsOf r with
      | none => simp
      | some l => by_cases h : (pname t).2 = true <;> simp [h]
    · rfl
theorem needsOf_len : ∀ (a : List ByteArray) (l : List Nd), needsOf a = some l → l.length = a.length := by
  intro a
  induction a with
  | nil => intro l h; simp [needsOf] at h; subst h; rfl
  | cons x r ih =>
    intro l h
    simp only [needsOf] at h
    split at h
    · cases hn : needsOf r with
      | none => rw [hn] at h; simp at h
      | some q => rw [hn] at h; simp at h; subst h; simp [ih q hn]
    · cases h
theorem needsOf_bad : ∀ (a b : List ByteArray), needsOf a = none → needsOf (a ++ b) = none := by
  intro a
  induction a with
  | nil => intro b h; simp [needsOf] at h
  | cons x r ih =>
    intro b h
    simp only [List.cons_append, needsOf] at h ⊢
    split at h
    · rename_i hx
      rw [if_pos hx]
      have : needsOf r = none := by simpa using h
      rw [ih b this]
      rfl
    · rename_i hx
      rw [if_neg hx]

theorem strBytes (w : World) (s : ByteArray) (hs : s.size ≤ 1000000000000) : ∃ (cap : Nat) (W : World), (convert 9 22 (.string s)).run Tryz.prog w = .ok (.slice (some ⟨w.heap.size, 0, none⟩) s.size cap) W ∧ Sl W (.slice (some ⟨w.heap.size, 0, none⟩) s.size cap) (bs (sb s)) ∧ Below w.heap.size w W := by
  refine ⟨_, _, Lib.run_convert_string_bytes w 9 22 5 s Tryz.underlying9 Tryz.underlying22 Tryz.underlying5, ⟨_, _, by rw [bs_len, sb_len], by rw [bs_len, sb_len]; exact grownCap_ge w s.size 0 5, fun h => (by cases h), fun _ => ⟨w.heap.size, 0, rfl, fun j hj => ?_⟩⟩, Lib.bytesWorld_below w 5 s⟩
  rw [bs_len, sb_len] at hj
  rw [Nat.zero_add, Lib.bytesWorld_cell w 5 s j hj, bs_get]
  have hj2 : j < s.data.toList.length := by simpa using hj
  have hj3 : j < s.data.size := hj
  simp [sb, List.getD]
  rw [Array.getElem?_eq_getElem hj3]
  simp

theorem getText_small (xs : List Int) (at_ : Int) : 0 ≤ (Plain.getText xs at_).2.1 ∧ (Plain.getText xs at_).2.1 ≤ xs.length ∧ (Plain.getText xs at_).1.size ≤ xs.length := by
  obtain ⟨s, p, ok, h⟩ : ∃ s p ok, Plain.getText xs at_ = (s, p, ok) := ⟨_, _, _, rfl⟩
  cases ok
  · unfold Plain.getText at h ⊢
    split at h
    · simp at h
    · rename_i hc
      rw [if_neg hc]
      exact ⟨Int.le_refl _, (by show (0 : Int) ≤ _; omega), Nat.zero_le _⟩
  · have := Plain.getText_bd h
    rw [h]
    simp only
    exact ⟨by omega, by omega, by omega⟩
theorem rd_small (xs : List Int) : ∀ (n : Nat) (p q : Int) (l : List ByteArray), Plain.rd xs n p = some (l, q) → ∀ t ∈ l, t.size ≤ xs.length := by
  intro n
  induction n with
  | zero => intro p q l h t ht; simp [Plain.rd] at h; rw [h.1] at ht; cases ht
  | succ n ih =>
    intro p q l h t ht
    rw [Plain.rd] at h
    split at h
    · rw [Option.map_eq_some_iff] at h
      obtain ⟨⟨l2, q2⟩, h1, h2⟩ := h
      simp only [Prod.mk.injEq] at h2
      rw [← h2.1] at ht
      rcases List.mem_cons.1 ht with rfl | ht
      · exact (getText_small xs p).2.2
      · exact ih _ _ _ h1 t ht
    · simp at h
theorem getTexts_small (xs : List Int) (at_ : Int) : ∀ t ∈ (Plain.getTexts xs at_).1, t.size ≤ xs.length := by
  unfold Plain.getTexts
  split
  · split
    · rename_i l q hr
      exact rd_small xs _ _ _ _ hr
    · intro t ht; cases ht
  · intro t ht; cases ht
theorem pname_size (s : ByteArray) : (pname s).1.path.size ≤ s.size ∧ (pname s).1.pre.size ≤ s.size := by
  have hT := splitT_size 64 s
  unfold pname
  split
  · rename_i x y hxy
    rw [hxy] at hT
    unfold pn
    split
    · exact ⟨hT x (by simp), Nat.le_trans (parseV_size y) (hT y (by simp))⟩
    · exact ⟨Nat.zero_le _, Nat.zero_le _⟩
  · exact ⟨Nat.zero_le _, Nat.zero_le _⟩
theorem infoN5 : (Tryz.prog.info? 38).map (fun i => (i.zero, i.size, i.bytes)) = some (some (.agg #[.string ⟨#[]⟩, .int .i64 0, .int .i64 0, .int .i64 0, .string ⟨#[]⟩]), 5, 56) := by kernel_rfl

/-- how an answer of GetEntry is told -/
def Got (s : ByteArray) (w : World) (e : Ending) (w' : World) : Prop :=
  ∃ v', e = .returned (.tuple #[.agg #[.string (get5 s).1.path, .int .i64 (get5 s).1.a, .int .i64 (get5 s).1.b, .int .i64 (get5 s).1.c, .string (get5 s).1.pre, v'], .bool (get5 s).2.2]) ∧ Od w' w.heap.size w'.heap.size v' (get5 s).2.1 ∧ Below w.heap.size w w'

theorem got_no {s : ByteArray} {w w' : World} (h : get5 s = no5) (hB : Below w.heap.size w w') : Got s w (.returned (.tuple #[.agg (ec nil5 (.slice none 0 0)), .bool false])) w' := by
  refine ⟨.slice none 0 0, ?_, ?_, hB⟩
  · rw [h]; rfl
  · rw [h]; exact On.nil 5 w' _ _ _

end Go.Proofs.YtlhmemnaiobgkaaGreatDoor.Ent

/- Chapter 5, the laws' helpers: marks laid into a list of needs, and found there. -/
namespace Go.Proofs.YtlhmemnaiobgkaaGreatDoor.Ent
open Go.RowKit Go.Proofs.YtlhmemnaiobgkaaGreatDoor.Mem Go.Proofs.YtlhmemnaiobgkaaGreatDoor.Laws Go.Proofs.YtlhmemnaiobgkaaGreatDoor.Bytes Go.Proofs.YtlhmemnaiobgkaaGreatDoor.Sha Go.Proofs.YtlhmemnaiobgkaaGreatDoor.Ver Go.Proofs.YtlhmemnaiobgkaaGreatDoor.Mod Go.Proofs.YtlhmemnaiobgkaaGreatDoor.Strs
set_option linter.unusedVariables false
set_option linter.unusedSimpArgs false

/-- marks from k on, as needs -/
def md (k : Nat) : Nd := ⟨mt k, ((k + 1 : Nat) : Int), ((k + 2 : Nat) : Int), ((k + 3 : Nat) : Int), mt (k + 4)⟩
def mds (k n : Nat) : List Nd := (List.range n).map fun i => md (k + 5 * i)
theorem mds_len (k n : Nat) : (mds k n).length = n := by simp [mds]
theorem mds_get (k n j : Nat) (h : j < n) : (mds k n)[j]? = some (md (k + 5 * j)) := by simp [mds, h]
theorem own_keep5 {n m cap lo g : Nat} {e : TypeId} {w w' : World} {cs : List Value} (h : w.ownsRow lo e n (.slice (some ⟨g, 0, none⟩) m cap) m cs) (hk : w'.heap[g]? = w.heap[g]?) : w'.ownsRow lo e n (.slice (some ⟨g, 0, none⟩) m cap) m cs := by
  refine ⟨h.1, ?_⟩
  rcases h.2 with ⟨h', _⟩ | ⟨g', cap', cur, h', hq, hh, r⟩
  · simp at h'
  · simp only [Value.slice.injEq, Option.some.injEq, Addr.mk.injEq, and_true, true_and] at h'
    obtain ⟨rfl, rfl⟩ := h'
    exact .inr ⟨g, cap, cur, rfl, hq, by rw [hk]; exact hh, r⟩

set_option maxRecDepth 1000000 in
set_option maxHeartbeats 4000000 in
theorem mark_needs (w : World) (v : Value) (lo hi : Nat) (l : List Nd) (k0 : Nat) (h : Od w lo hi v l) (hhi : hi ≤ w.heap.size) (hx : l.length ≤ 1000000000) (hk1 : 1 ≤ k0) (hk0 : k0 ≤ 1000000000) :
    Calls Tryz.prog 31 #[v, .int .i64 (k0 : Int)] w fun e w' => e = .returned (.int .i64 ((k0 + 5 * l.length : Nat) : Int)) ∧ Od w' lo hi v (mds k0 l.length) ∧ Apart lo hi w w' := by
  rcases h.1.2 with ⟨rfl, h0⟩ | ⟨g, cap, cur, rfl, hbg, hg, hnc, hcm, hcs, ht⟩
  · have hcs : l = [] := List.eq_nil_of_length_eq_zero h0
    subst hcs
    go_enter Tryz.func31, Tryz.ntmps31
    go_wp2
    refine wp_loop_rounds 1 ?_; rw [rounds_succ]
    go_wp2
    go_ret
    exact ⟨rfl, h, Apart.refl _ _ _⟩
  · have hgh : g < hi := h.2 g rfl
    have hown1 := h.1
    obtain ⟨n, hn⟩ : ∃ n, n = l.length := ⟨_, rfl⟩
    have hown0 : w.ownsRow lo 38 5 (.slice (some ⟨g, 0, none⟩) n cap) n (nds l) := by rw [hn]; exact hown1
    rw [← hn] at hnc hx ⊢
    clear hg hcs ht h hcm cur hown1
    go_enter Tryz.func31, Tryz.ntmps31
    go_wp2
    go_loopw [1, 5] (fun kk i wr => ∃ (k : Nat) (L : List Value), k ≤ n ∧ i = .int .i64 k ∧ kk = .int .i64 ((k0 + 5 * k : Nat) : Int) ∧ L.take (k * 5) = (nds (mds k0 n)).take (k * 5) ∧ wr.ownsRow lo 38 5 (.slice (some ⟨g, 0, none⟩) n cap) n L ∧ Apart lo hi w wr) (fun _ i _ => n - (intOf i).toNat)
    case atStart => exact ⟨0, nds l, Nat.zero_le _, rfl, rfl, by simp, hown0, Apart.refl _ _ _⟩
    case round =>
      obtain ⟨k, L, hk, rfl, rfl, hE0, hownr, hap⟩ := hrel
      have HE : Hid (L.take (k * 5) = (nds (mds k0 n)).take (k * 5)) := hE0
      have HL : Hid (L.length = n * 5) := hownr.1
      clear hE0 hown0 hn
      by_cases hlt : k < n
      · have hglt : g < wr.heap.size := (hownr.lt g rfl).2
        obtain ⟨K, hK⟩ : ∃ K : Nat, K = k0 + 5 * k := ⟨_, rfl⟩
        have HK : Hid (K = k0 + 5 * k) := hK
        have hKb : K ≤ 10000000000 := by omega
        have hK1 : 1 ≤ K := by omega
        rw [← hK]
        clear hK
        have hmt := mark_text wr K (by omega) (by omega)
        have hm4 : ∀ W, _ := fun W => mark_text W (K + 4) (by omega) (by omega)
        go_wp2_with fail
        refine hmt.mono ?_
        rintro e w1 ⟨rfl, hb1⟩
        have hown1 : w1.ownsRow lo 38 5 (.slice (some ⟨g, 0, none⟩) n cap) n L := own_keep5 hownr (hb1.block g hglt)
        have hap1 := hap.grow hb1
        have hc : ∀ j, j < 5 → ∃ u, w1.cell? ⟨g, k * 5 + j, none⟩ = some u := fun j hj => ⟨L[k * 5 + j]'(by have := HL.out; omega), by rw [hown1.cellAt (k * 5 + j) (by omega)]; simp⟩
        obtain ⟨u0, hu0⟩ := hc 0 (by omega)
        obtain ⟨u1, hu1⟩ := hc 1 (by omega)
        obtain ⟨u2, hu2⟩ := hc 2 (by omega)
        obtain ⟨u3, hu3⟩ := hc 3 (by omega)
        obtain ⟨u4, hu4⟩ := hc 4 (by omega)
        rw [Nat.add_zero] at hu0
        have hf0 := hown1.frozenAt (k * 5)
        have hf1 := hown1.frozenAt (k * 5 + 1)
        have hf2 := hown1.frozenAt (k * 5 + 2)
        have hf3 := hown1.frozenAt (k * 5 + 3)
        have hf4 := hown1.frozenAt (k * 5 + 4)
        clear hmt hownr hap hb1 hc
        go_wp2_with fail
        have e4 : (K : Int) + 1 + 1 + 1 + 1 = ((K + 4 : Nat) : Int) := by omega
        have e3 : (K : Int) + 1 + 1 + 1 = ((K + 3 : Nat) : Int) := by omega
        have e2 : (K : Int) + 1 + 1 = ((K + 2 : Nat) : Int) := by omega
        have e1 : (K : Int) + 1 = ((K + 1 : Nat) : Int) := by omega
        rw [e4]
        obtain ⟨W4, hW4⟩ : ∃ W4, W4 = ((((w1.setCell ⟨g, k * 5, none⟩ (.string (mt K))).setCell ⟨g, k * 5 + 1, none⟩ (.int .i64 ((K : Int) + 1))).setCell ⟨g, k * 5 + 1 + 1, none⟩ (.int .i64 ((K : Int) + 1 + 1))).setCell ⟨g, k * 5 + 1 + 2, none⟩ (.int .i64 ((K : Int) + 1 + 1 + 1))) := ⟨_, rfl⟩
        have hown4 : W4.ownsRow lo 38 5 (.slice (some ⟨g, 0, none⟩) n cap) n ((((L.set (k * 5) (.string (mt K))).set (k * 5 + 1) (.int .i64 ((K : Int) + 1))).set (k * 5 + 1 + 1) (.int .i64 ((K : Int) + 1 + 1))).set (k * 5 + 1 + 2) (.int .i64 ((K : Int) + 1 + 1 + 1))) := by
          rw [hW4]
          exact ((((hown1.stored _ _).1.stored _ _).1.stored _ _).1.stored _ _).1
        have hap4 : Apart lo hi w W4 := by
          rw [hW4]
          exact (((hap1.setCell (p := ⟨g, k * 5, none⟩) hbg hgh _).setCell (p := ⟨g, k * 5 + 1, none⟩) hbg hgh _).setCell (p := ⟨g, k * 5 + 1 + 1, none⟩) hbg hgh _).setCell (p := ⟨g, k * 5 + 1 + 2, none⟩) hbg hgh _
        have q4 := hm4 W4
        rw [hW4] at q4
        refine q4.mono ?_
        rw [← hW4]
        rintro e w5 ⟨rfl, hb5⟩
        have hg4 : g < W4.heap.size := (hown4.lt g rfl).2
        have hown5 := own_keep5 hown4 (hb5.block g hg4)
        have hap5 := hap4.grow hb5
        obtain ⟨L5, hL5⟩ : ∃ L5, L5 = ((((L.set (k * 5) (.string (mt K))).set (k * 5 + 1) (.int .i64 ((K : Int) + 1))).set (k * 5 + 1 + 1) (.int .i64 ((K : Int) + 1 + 1))).set (k * 5 + 1 + 2) (.int .i64 ((K : Int) + 1 + 1 + 1))) := ⟨_, rfl⟩
        rw [← hL5] at hown5
        have HL5 : Hid (L5.length = n * 5) := hown5.1
        obtain ⟨u5, hu5⟩ : ∃ u, w5.cell? ⟨g, k * 5 + 1 + 3, none⟩ = some u := ⟨L5[k * 5 + 1 + 3]'(by have := HL5.out; omega), by rw [hown5.cellAt (k * 5 + 1 + 3) (by omega)]; simp⟩
        have hf5 := hown5.frozenAt (k * 5 + 1 + 3)
        have HS : Hid ((w5.setCell ⟨g, k * 5 + 1 + 3, none⟩ (.string (mt (K + 4)))).ownsRow lo 38 5 (.slice (some ⟨g, 0, none⟩) n cap) n (putL L (k * 5) (md K).cs)) := by
          have h := (hown5.stored (k * 5 + 1 + 3) (.string (mt (K + 4)))).1
          rw [hL5, e3, e2, e1] at h
          exact h
        have HA : Hid (Apart lo hi w (w5.setCell ⟨g, k * 5 + 1 + 3, none⟩ (.string (mt (K + 4))))) := hap5.setCell (p := ⟨g, k * 5 + 1 + 3, none⟩) hbg hgh _
        clear q4 hm4 hown1 hown4 hown5 hap1 hap4 hap5 hu0 hu1 hu2 hu3 hu4 hf0 hf1 hf2 hf3 hf4 hb5 hW4 hL5 HL5 e1 e2 e3 e4
        go_wp2
        go_roundw
        case rel =>
          refine ⟨k + 1, putL L (k * 5) (md K).cs, by omega, by go_num, ?_, ?_, HS.out, HA.out⟩
          · have := HK.out
            go_num
          · refine putL_take (by rw [HL.out, nds_len, mds_len]) (by rw [nds_len, mds_len]; omega) HE.out rfl (fun j hj => ?_)
            have hq := mds_get k0 n k hlt
            rw [← HK.out] at hq
            obtain ⟨c0, c1, c2, c3, c4⟩ := nds_get (mds k0 n) k (md K) hq
            match j, hj with
            | 0, _ => exact c0
            | 1, _ => exact c1
            | 2, _ => exact c2
            | 3, _ => exact c3
            | 4, _ => exact c4
        case measure => simp [intOf]; omega
      · go_wp2
        go_ret
        have h1 := HE.out
        have h2 := HL.out
        have hkn : k = n := by omega
        subst hkn
        rw [List.take_of_length_le (by omega), List.take_of_length_le (by rw [nds_len, mds_len]; omega)] at h1
        subst h1
        refine ⟨rfl, ⟨?_, fun g' hg' => by simp [Value.ownBlock] at hg'; omega⟩, hap⟩
        have := hownr
        rw [mds_len]
        exact this

end Go.Proofs.YtlhmemnaiobgkaaGreatDoor.Ent

/- Chapter 15, the laws' helpers: marks laid into a list of entries. -/
namespace Go.Proofs.YtlhmemnaiobgkaaGreatDoor.Fe
open Go.RowKit Go.Proofs.YtlhmemnaiobgkaaGreatDoor.Mem Go.Proofs.YtlhmemnaiobgkaaGreatDoor.Laws Go.Proofs.YtlhmemnaiobgkaaGreatDoor.Ver Go.Proofs.YtlhmemnaiobgkaaGreatDoor.Ent Go.Proofs.YtlhmemnaiobgkaaGreatDoor.Strs
set_option linter.unusedVariables false
set_option linter.unusedSimpArgs false

theorem Od.tight {w : World} {lo hi : Nat} {v : Value} {l : List Nd} (h : Od w lo hi v l) : ∃ a b, Od w a b v l ∧ b ≤ w.heap.size ∧ ∀ k, a ≤ k → k < b → v.ownBlock = some k ∧ lo ≤ k ∧ k < hi := by
  cases hv : v.ownBlock with
  | none => exact ⟨lo, 0, ⟨h.1, fun g hg => by rw [hv] at hg; cases hg⟩, Nat.zero_le _, fun k h1 h2 => by omega⟩
  | some g =>
    obtain ⟨h1, h2, h3⟩ := On.lt h hv
    exact ⟨g, g + 1, On.narrow h hv, by omega, fun k h4 h5 => ⟨by rw [show g = k by omega], by omega, by omega⟩⟩
theorem Apart.wide {lo hi a b : Nat} {w w' : World} (h : Apart a b w w') (hk : ∀ k, a ≤ k → k < b → lo ≤ k ∧ k < hi) : Apart lo hi w w' :=
  ⟨h.os, h.tape, h.output, h.size, fun k h1 h2 => h.block k h1 (fun h3 => h2 (hk k h3.1 h3.2))⟩
theorem drop_at {α : Type} {T : List α} {k : Nat} {x : α} (h : T[k]? = some x) : T.drop k = x :: T.drop (k + 1) := by
  obtain ⟨h1, h2⟩ := List.getElem?_eq_some_iff.1 h
  rw [List.drop_eq_getElem_cons h1, h2]

set_option maxRecDepth 1000000 in
set_option maxHeartbeats 4000000 in
theorem mark_entries (w : World) (v : Value) (lo hi : Nat) (T : List Ev) (k0 : Nat) (h : Oes w lo hi v T) (hhi : hi ≤ w.heap.size) (hx : tot15 T ≤ 10000000) (hk1 : 1 ≤ k0) (hk0 : k0 ≤ 100000000) :
    Calls Tryz.prog 30 #[v, .int .i64 (k0 : Int)] w fun e w' => e = .returned (.int .i64 ((k0 + 5 * tot15 T : Nat) : Int)) ∧ Apart lo hi w w' := by
  have HP : Hid (T.Pairwise fun x y => ∀ k, x.u.ownBlock = some k → y.u.ownBlock ≠ some k) := h.2.2
  have HI : Hid (∀ x ∈ T.drop 0, Od w lo hi x.u x.l) := h.2.1
  rcases h.1.1.2 with ⟨rfl, h0⟩ | ⟨g, cap, cur, rfl, hbg, hg, hnc, hcm, hcs, ht⟩
  · have hcs : T = [] := List.eq_nil_of_length_eq_zero h0
    subst hcs
    clear HP HI
    go_enter Tryz.func30, Tryz.ntmps30
    go_wp2
    refine wp_loop_rounds 1 ?_; rw [rounds_succ]
    go_wp2
    go_ret
    exact ⟨rfl, Apart.refl _ _ _⟩
  · have hgh : g < hi := h.1.2 g rfl
    have hown1 := h.1.1
    have HL0 : Hid (∀ i x, T[i]? = some x → (ecs T)[i * 6 + 5]? = some x.u) := fun i x hx => (ecs_get T i x hx).2.2.2.2.2
    have HX : Hid (T.length ≤ tot15 T ∧ tot15 T ≤ 10000000) := ⟨tot15_len T, hx⟩
    obtain ⟨n, hn⟩ : ∃ n, n = T.length := ⟨_, rfl⟩
    have HN : Hid (n = T.length) := hn
    have hown0 : w.ownsRow lo 34 6 (.slice (some ⟨g, 0, none⟩) n cap) n (ecs T) := by rw [hn]; exact hown1
    have hn10 : n ≤ 10000000 := by have := HX.out; omega
    obtain ⟨R, hR⟩ : ∃ R : Int, ((k0 + 5 * tot15 T : Nat) : Int) = R := ⟨_, rfl⟩
    have HR : Hid (((k0 + 5 * tot15 T : Nat) : Int) = R) := hR
    rw [← hn] at hnc ⊢
    rw [hR]
    clear hg hcs ht h hcm cur hown1 hx hR hn
    go_enter Tryz.func30, Tryz.ntmps30
    go_wp2
    go_loopw [1, 5] (fun kk i wr => ∃ (k K : Nat) (L : List Value), k ≤ n ∧ i = .int .i64 k ∧ kk = .int .i64 (K : Int) ∧ Hid (K = k0 + 5 * tot15 (T.take k)) ∧ Hid (∀ i x, T[i]? = some x → L[i * 6 + 5]? = some x.u) ∧ wr.ownsRow lo 34 6 (.slice (some ⟨g, 0, none⟩) n cap) n L ∧ Hid (∀ x ∈ T.drop k, Od wr lo hi x.u x.l) ∧ Apart lo hi w wr) (fun _ i _ => n - (intOf i).toNat)
    case atStart => exact ⟨0, k0, ecs T, Nat.zero_le _, rfl, rfl, by show _ = _; simp [tot15], HL0, hown0, HI, Apart.refl _ _ _⟩
    case round =>
      obtain ⟨k, K, L, hk, rfl, rfl, HK, HE, hownr, HI, hap⟩ := hrel
      have HL : Hid (L.length = n * 6) := hownr.1
      clear hown0
      by_cases hlt : k < n
      · have hglt : g < wr.heap.size := (hownr.lt g rfl).2
        obtain ⟨x, hx⟩ : ∃ x, T[k]? = some x := ⟨T[k]'(by have := HN.out; omega), List.getElem?_eq_getElem (by have := HN.out; omega)⟩
        have hts : tot15 (T.take (k + 1)) = tot15 (T.take k) + (1 + x.l.length) := by rw [List.take_add_one, hx, tot15_app]; rfl
        have htt : tot15 (T.take (k + 1)) ≤ tot15 T := by
          have := tot15_app (T.take (k + 1)) (T.drop (k + 1))
          rw [List.take_append_drop] at this
          omega
        have hKb : K + 5 * x.l.length ≤ 900000000 := by have := HX.out; have := HK.out; omega
        have hK1 : 1 ≤ K := by have := HK.out; omega
        have HK2 : Hid (K + 5 + 5 * x.l.length = k0 + 5 * tot15 (T.take (k + 1))) := by show _ = _; have := HK.out; omega
        have HD : Hid (T.drop k = x :: T.drop (k + 1)) := drop_at hx
        have hxu := HE.out k x hx
        have hxl : x.l.length ≤ 1000000000 := by omega
        clear hts htt HK hx
        have hmt := mark_text wr K (by omega) (by omega)
        have hm4 : ∀ W, _ := fun W => mark_text W (K + 4) (by omega) (by omega)
        go_wp2_with fail
        refine hmt.mono ?_
        rintro e w1 ⟨rfl, hb1⟩
        have hown1 : w1.ownsRow lo 34 6 (.slice (some ⟨g, 0, none⟩) n cap) n L := own_keep5 hownr (hb1.block g hglt)
        have hap1 := hap.grow hb1
        have HI1 : Hid (∀ x ∈ T.drop k, Od w1 lo hi x.u x.l) := fun y hy => On.keep1 (HI.out y hy) (fun j hj => hb1.block j (On.lt (HI.out y hy) hj).2.2)
        have hc : ∀ j, j < 6 → ∃ u, w1.cell? ⟨g, k * 6 + j, none⟩ = some u := fun j hj => ⟨L[k * 6 + j]'(by have := HL.out; omega), by rw [hown1.cellAt (k * 6 + j) (by omega)]; simp⟩
        obtain ⟨u0, hu0⟩ := hc 0 (by omega)
        obtain ⟨u1, hu1⟩ := hc 1 (by omega)
        obtain ⟨u2, hu2⟩ := hc 2 (by omega)
        obtain ⟨u3, hu3⟩ := hc 3 (by omega)
        obtain ⟨u4, hu4⟩ := hc 4 (by omega)
        rw [Nat.add_zero] at hu0
        have hf0 := hown1.frozenAt (k * 6)
        have hf1 := hown1.frozenAt (k * 6 + 1)
        have hf2 := hown1.frozenAt (k * 6 + 2)
        have hf3 := hown1.frozenAt (k * 6 + 3)
        have hf4 := hown1.frozenAt (k * 6 + 4)
        clear hmt hownr hap hb1 hc HI
        go_wp2_with fail
        have e4 : (K : Int) + 1 + 1 + 1 + 1 = ((K + 4 : Nat) : Int) := by omega
        rw [e4]
        obtain ⟨W4, hW4⟩ : ∃ W4, W4 = ((((w1.setCell ⟨g, k * 6, none⟩ (.string (mt K))).setCell ⟨g, k * 6 + 1, none⟩ (.int .i64 ((K : Int) + 1))).setCell ⟨g, k * 6 + 1 + 1, none⟩ (.int .i64 ((K : Int) + 1 + 1))).setCell ⟨g, k * 6 + 1 + 2, none⟩ (.int .i64 ((K : Int) + 1 + 1 + 1))) := ⟨_, rfl⟩
        have hown4 : W4.ownsRow lo 34 6 (.slice (some ⟨g, 0, none⟩) n cap) n ((((L.set (k * 6) (.string (mt K))).set (k * 6 + 1) (.int .i64 ((K : Int) + 1))).set (k * 6 + 1 + 1) (.int .i64 ((K : Int) + 1 + 1))).set (k * 6 + 1 + 2) (.int .i64 ((K : Int) + 1 + 1 + 1))) := by
          rw [hW4]
          exact ((((hown1.stored _ _).1.stored _ _).1.stored _ _).1.stored _ _).1
        have hap4 : Apart lo hi w W4 := by
          rw [hW4]
          exact (((hap1.setCell (p := ⟨g, k * 6, none⟩) hbg hgh _).setCell (p := ⟨g, k * 6 + 1, none⟩) hbg hgh _).setCell (p := ⟨g, k * 6 + 1 + 1, none⟩) hbg hgh _).setCell (p := ⟨g, k * 6 + 1 + 2, none⟩) hbg hgh _
        obtain ⟨cur1, hrow1⟩ : ∃ cur, w1.heap[g]? = some (.cells cur 34 (0, 0)) := by
          rcases hown1.2 with ⟨h9, _⟩ | ⟨g9, cp, cur, h9, _, hg9, _⟩
          · simp at h9
          · simp only [Value.slice.injEq, Option.some.injEq, Addr.mk.injEq, and_true, true_and] at h9
            obtain ⟨rfl, _⟩ := h9
            exact ⟨cur, hg9⟩
        have HI4 : Hid (∀ x ∈ T.drop k, Od W4 lo hi x.u x.l) := by
          intro y hy
          refine On.keep1 (HI1.out y hy) (fun j hj => ?_)
          have hjg : j ≠ g := fun e9 => On.neRow (HI1.out y hy) hrow1 (by decide) (hj.trans (congrArg some e9))
          rw [hW4, heap_setCell_other _ ⟨g, _, none⟩ j _ hjg, heap_setCell_other _ ⟨g, _, none⟩ j _ hjg, heap_setCell_other _ ⟨g, _, none⟩ j _ hjg, heap_setCell_other _ ⟨g, _, none⟩ j _ hjg]
        have q4 := hm4 W4
        rw [hW4] at q4
        refine q4.mono ?_
        rw [← hW4]
        rintro e w5 ⟨rfl, hb5⟩
        have hg4 : g < W4.heap.size := (hown4.lt g rfl).2
        have hown5 := own_keep5 hown4 (hb5.block g hg4)
        have hap5 := hap4.grow hb5
        have HI5 : Hid (∀ x ∈ T.drop k, Od w5 lo hi x.u x.l) := fun y hy => On.keep1 (HI4.out y hy) (fun j hj => hb5.block j (On.lt (HI4.out y hy) hj).2.2)
        obtain ⟨L5, hL5⟩ : ∃ L5, L5 = ((((L.set (k * 6) (.string (mt K))).set (k * 6 + 1) (.int .i64 ((K : Int) + 1))).set (k * 6 + 1 + 1) (.int .i64 ((K : Int) + 1 + 1))).set (k * 6 + 1 + 2) (.int .i64 ((K : Int) + 1 + 1 + 1))) := ⟨_, rfl⟩
        rw [← hL5] at hown5
        have HL5 : Hid (L5.length = n * 6) := hown5.1
        obtain ⟨u5, hu5⟩ : ∃ u, w5.cell? ⟨g, k * 6 + 1 + 3, none⟩ = some u := ⟨L5[k * 6 + 1 + 3]'(by have := HL5.out; omega), by rw [hown5.cellAt (k * 6 + 1 + 3) (by omega)]; simp⟩
        have hf5 := hown5.frozenAt (k * 6 + 1 + 3)
        have hown6 := (hown5.stored (k * 6 + 1 + 3) (.string (mt (K + 4)))).1
        have hap6 := hap5.setCell (p := ⟨g, k * 6 + 1 + 3, none⟩) hbg hgh (.string (mt (K + 4)))
        have HE6 : Hid (∀ i x, T[i]? = some x → (L5.set (k * 6 + 1 + 3) (.string (mt (K + 4))))[i * 6 + 5]? = some x.u) := by
          intro i y hy
          rw [hL5, List.getElem?_set_ne (by omega), List.getElem?_set_ne (by omega), List.getElem?_set_ne (by omega), List.getElem?_set_ne (by omega), List.getElem?_set_ne (by omega)]
          exact HE.out i y hy
        obtain ⟨W6, hW6⟩ : ∃ W6, W6 = w5.setCell ⟨g, k * 6 + 1 + 3, none⟩ (.string (mt (K + 4))) := ⟨_, rfl⟩
        have hc6 : (w5.setCell ⟨g, k * 6 + 1 + 3, none⟩ (.string (mt (K + 4)))).cell? ⟨g, k * 6 + 5, none⟩ = some x.u := by
          rw [hown6.cellAt (k * 6 + 5) (by omega), hL5, List.getElem?_set_ne (by omega), List.getElem?_set_ne (by omega), List.getElem?_set_ne (by omega), List.getElem?_set_ne (by omega), List.getElem?_set_ne (by omega)]
          exact hxu
        obtain ⟨cur6, hrow6⟩ : ∃ cur, W6.heap[g]? = some (.cells cur 34 (0, 0)) := by
          rw [hW6]
          rcases hown6.2 with ⟨h9, _⟩ | ⟨g9, cp, cur, h9, _, hg9, _⟩
          · simp at h9
          · simp only [Value.slice.injEq, Option.some.injEq, Addr.mk.injEq, and_true, true_and] at h9
            obtain ⟨rfl, _⟩ := h9
            exact ⟨cur, hg9⟩
        obtain ⟨cur5, hrow5⟩ : ∃ cur, w5.heap[g]? = some (.cells cur 34 (0, 0)) := by
          rcases hown5.2 with ⟨h9, _⟩ | ⟨g9, cp, cur, h9, _, hg9, _⟩
          · simp at h9
          · simp only [Value.slice.injEq, Option.some.injEq, Addr.mk.injEq, and_true, true_and] at h9
            obtain ⟨rfl, _⟩ := h9
            exact ⟨cur, hg9⟩
        have HI6 : Hid (∀ x ∈ T.drop k, Od W6 lo hi x.u x.l) := by
          intro y hy
          refine On.keep1 (HI5.out y hy) (fun j hj => ?_)
          have hjg : j ≠ g := fun e9 => On.neRow (HI5.out y hy) hrow5 (by decide) (hj.trans (congrArg some e9))
          rw [hW6, heap_setCell_other _ ⟨g, _, none⟩ j _ hjg]
        have hox : Od W6 lo hi x.u x.l := HI6.out x (by rw [HD.out]; exact List.mem_cons_self ..)
        obtain ⟨a, b, hoab, hbs, hab⟩ := Od.tight hox
        have q6 := mark_needs W6 x.u a b x.l (K + 5) hoab hbs hxl (by omega) (by omega)
        obtain ⟨ao9, L9, cap9, hu, hL9a, hL9b⟩ : ∃ ao9 L9 cap9, x.u = .slice ao9 L9 cap9 ∧ L9 ≤ x.l.length ∧ x.l.length ≤ L9 := by
          obtain ⟨ao9, cap9, hu⟩ := Od.slice hox
          exact ⟨ao9, _, cap9, hu, Nat.le_refl _, Nat.le_refl _⟩
        have HO6 : Hid (W6.ownsRow lo 34 6 (.slice (some ⟨g, 0, none⟩) n cap) n (L5.set (k * 6 + 1 + 3) (.string (mt (K + 4))))) := by rw [hW6]; exact hown6
        have HA6 : Hid (Apart lo hi w W6) := by rw [hW6]; exact hap6
        have HAB : Hid (∀ k, a ≤ k → k < b → x.u.ownBlock = some k ∧ lo ≤ k ∧ k < hi) := hab
        have hgab : ¬ (a ≤ g ∧ g < b) := fun h9 => On.neRow hox hrow6 (by decide) (hab g h9.1 h9.2).1
        have HG : Hid (¬ (a ≤ g ∧ g < b)) := hgab
        rw [hu, hW6] at q6
        have HW6 : Hid (W6 = _) := hW6
        have HU : Hid (x.u = _) := hu
        rw [hu] at hc6
        have e5 : (K : Int) + 1 + 1 + 1 + 1 + 1 = ((K + 5 : Nat) : Int) := by omega
        have e4' : ((K + 4 : Nat) : Int) + 1 = ((K + 5 : Nat) : Int) := by omega
        obtain ⟨M, hM⟩ : ∃ M : Int, ((K + 5 + 5 * x.l.length : Nat) : Int) = M := ⟨_, rfl⟩
        have HM : Hid (((K + 5 + 5 * x.l.length : Nat) : Int) = M) := hM
        rw [hM] at q6
        clear q4 hm4 hown1 hown4 hown5 hown6 hap1 hap4 hap5 hap6 hu0 hu1 hu2 hu3 hu4 hf0 hf1 hf2 hf3 hf4 hb5 hW4 hL5 HL5 HI1 HI4 HI5 hox hoab hab hgab hrow1 hrow5 hrow6 hW6 hu hM HE HL hxu
        go_wp2_with fail
        first | rw [e4'] | skip
        refine q6.mono ?_
        rw [← HW6.out]
        rintro e w7 ⟨rfl, o7, a7⟩
        have hgl : g < W6.heap.size := (HO6.out.lt g rfl).2
        have HO7 : Hid (w7.ownsRow lo 34 6 (.slice (some ⟨g, 0, none⟩) n cap) n (L5.set (k * 6 + 1 + 3) (.string (mt (K + 4))))) := own_keep5 HO6.out (a7.block g hgl HG.out)
        have HA7 : Hid (Apart lo hi w w7) := HA6.out.trans (Apart.wide a7 fun j h8 h9 => (HAB.out j h8 h9).2)
        have HI7 : Hid (∀ y ∈ T.drop (k + 1), Od w7 lo hi y.u y.l) := by
          intro y hy
          have h1 := HI6.out y (by rw [HD.out]; exact List.mem_cons_of_mem _ hy)
          refine On.keep1 h1 (fun j hj => a7.block j (On.lt h1 hj).2.2 (fun h9 => ?_))
          have hpw : (T.drop k).Pairwise fun x y => ∀ k, x.u.ownBlock = some k → y.u.ownBlock ≠ some k := HP.out.sublist (List.drop_sublist _ _)
          rw [HD.out] at hpw
          exact (List.pairwise_cons.1 hpw).1 y hy j (HAB.out j h9.1 h9.2).1 hj
        obtain ⟨K7, hK7⟩ : ∃ K7 : Nat, M = (K7 : Int) := ⟨_, HM.out.symm⟩
        have HK7 : Hid (K7 = k0 + 5 * tot15 (T.take (k + 1))) := by show _ = _; have h1 := HM.out; have h2 := HK2.out; omega
        subst hK7
        clear q6 o7 a7 HO6 HA6 HI6 HW6 HU HAB HG HM HK2 e5 e4' hc6
        go_wp2
        go_roundw
        case rel => exact ⟨k + 1, K7, _, by omega, by go_num, rfl, HK7, HE6, HO7.out, HI7, HA7.out⟩
        case measure => simp [intOf]; omega
      · have hkn : k = T.length := by have := HN.out; omega
        have hKR : (K : Int) = R := by
          have h1 := HK.out
          rw [hkn, List.take_length] at h1
          rw [h1]
          exact HR.out
        subst hKR
        clear hkn
        go_wp2
        go_ret
        exact ⟨rfl, hap⟩

end Go.Proofs.YtlhmemnaiobgkaaGreatDoor.Fe

/- Chapter 15, the laws' helpers: lists of versions: whether two are the same, marks. -/
namespace Go.Proofs.YtlhmemnaiobgkaaGreatDoor.Fe
open Go.RowKit Go.Proofs.YtlhmemnaiobgkaaGreatDoor.Mem Go.Proofs.YtlhmemnaiobgkaaGreatDoor.Laws Go.Proofs.YtlhmemnaiobgkaaGreatDoor.Ver Go.Proofs.YtlhmemnaiobgkaaGreatDoor.Ent Go.Proofs.YtlhmemnaiobgkaaGreatDoor.Strs
set_option linter.unusedVariables false
set_option linter.unusedSimpArgs false

theorem vcs_get : ∀ (l : List Nd) (k : Nat) (q : Nd), l[k]? = some q →
    (vcs l)[k * 4]? = some (.int .i64 q.a) ∧ (vcs l)[k * 4 + 1]? = some (.int .i64 q.b) ∧ (vcs l)[k * 4 + 2]? = some (.int .i64 q.c) ∧ (vcs l)[k * 4 + 3]? = some (.string q.pre) := by
  intro l
  induction l with
  | nil => intro k q h; simp at h
  | cons x r ih =>
    intro k q h
    cases k with
    | zero => simp at h; subst h; exact ⟨rfl, rfl, rfl, rfl⟩
    | succ k =>
      have := ih k q (by simpa using h)
      have e : (k + 1) * 4 = k * 4 + 4 := by omega
      rw [e]
      exact this
/-- v is a slice of the versions of these -/
def Sw (w : World) (v : Value) (l : List Nd) : Prop := Sn 4 w v l.length (vcs l)
theorem Ow.sw {w : World} {lo hi : Nat} {v : Value} {l : List Nd} (h : Ow w lo hi v l) : Sw w v l := On.sn h
theorem Ow.slice {w : World} {lo hi : Nat} {v : Value} {l : List Nd} (h : Ow w lo hi v l) : ∃ ao cap, v = .slice ao l.length cap := On.slice h
theorem Sw.later {w w' : World} {v : Value} {l : List Nd} (h : Sw w v l) (hb : Below w.heap.size w w') : Sw w' v l := Sn.later h hb
theorem Sw.at {w : World} {v : Value} {l : List Nd} (h : Sw w v l) {k : Nat} {q : Nd} (hq : l[k]? = some q) : ∃ b off cap, v = .slice (some ⟨b, off, none⟩) l.length cap ∧ l.length ≤ cap ∧
    w.cell? ⟨b, off + k * 4, none⟩ = some (.int .i64 q.a) ∧ w.cell? ⟨b, off + k * 4 + 1, none⟩ = some (.int .i64 q.b) ∧ w.cell? ⟨b, off + k * 4 + 2, none⟩ = some (.int .i64 q.c) ∧ w.cell? ⟨b, off + k * 4 + 3, none⟩ = some (.string q.pre) := by
  have hk : k < l.length := (List.getElem?_eq_some_iff.1 hq).1
  obtain ⟨b, off, cap, rfl, hc, hr⟩ := Sn.at h hk
  obtain ⟨h0, h1, h2, h3⟩ := vcs_get l k q hq
  refine ⟨b, off, cap, rfl, hc, ?_, ?_, ?_, ?_⟩
  · have := hr 0 (by omega); rw [Nat.add_zero, h0] at this; exact this
  · have := hr 1 (by omega); rw [h1, ← Nat.add_assoc] at this; exact this
  · have := hr 2 (by omega); rw [h2, ← Nat.add_assoc] at this; exact this
  · have := hr 3 (by omega); rw [h3, ← Nat.add_assoc] at this; exact this
/-- marks from k on, as versions -/
def mv (k : Nat) : Nd := ⟨⟨#[]⟩, (k : Int), ((k + 1 : Nat) : Int), ((k + 2 : Nat) : Int), mt (k + 3)⟩
def mvs (k n : Nat) : List Nd := (List.range n).map fun i => mv (k + 4 * i)
theorem mvs_len (k n : Nat) : (mvs k n).length = n := by simp [mvs]
theorem mvs_get (k n j : Nat) (h : j < n) : (mvs k n)[j]? = some (mv (k + 4 * j)) := by simp [mvs, h]

end Go.Proofs.YtlhmemnaiobgkaaGreatDoor.Fe

/- Chapter 5, the laws' helpers: marks found in a list of needs; an entry's marks. -/
namespace Go.Proofs.YtlhmemnaiobgkaaGreatDoor.Ent
open Go.RowKit Go.Proofs.YtlhmemnaiobgkaaGreatDoor.Mem Go.Proofs.YtlhmemnaiobgkaaGreatDoor.Laws Go.Proofs.YtlhmemnaiobgkaaGreatDoor.Bytes Go.Proofs.YtlhmemnaiobgkaaGreatDoor.Sha Go.Proofs.YtlhmemnaiobgkaaGreatDoor.Ver Go.Proofs.YtlhmemnaiobgkaaGreatDoor.Mod Go.Proofs.YtlhmemnaiobgkaaGreatDoor.Strs
set_option linter.unusedVariables false
set_option linter.unusedSimpArgs false

set_option maxRecDepth 1000000 in
set_option maxHeartbeats 4000000 in
theorem held_needs (w : World) (v : Value) (n k0 : Nat) (h : Sd w v (mds k0 n)) (hx : n ≤ 1000000000) (hk1 : 1 ≤ k0) (hk0 : k0 ≤ 1000000000) :
    Calls Tryz.prog 32 #[v, .int .i64 (k0 : Int)] w fun e w' => e = .returned (.int .i64 ((k0 + 5 * n : Nat) : Int)) ∧ Below w.heap.size w w' := by
  have HS : Hid (Sd w v (mds k0 n)) := h
  obtain ⟨_, ao, cap, rfl, hcap, _, _⟩ := h
  have hml := mds_len k0 n
  rw [hml] at HS hcap ⊢
  go_enter Tryz.func32, Tryz.ntmps32
  go_wp2
  go_loopw [1, 5] (fun kk i wr => ∃ k : Nat, k ≤ n ∧ i = .int .i64 (k : Int) ∧ kk = .int .i64 ((k0 + 5 * k : Nat) : Int) ∧ Below w.heap.size w wr) (fun _ i _ => n - (intOf i).toNat)
  case atStart => exact ⟨0, Nat.zero_le _, rfl, rfl, Below.refl _ _⟩
  case round =>
    obtain ⟨k, hk, rfl, rfl, hB⟩ := hrel
    by_cases hlt : k < n
    · obtain ⟨b, off, cap', he, _, c0, c1, c2, c3, c4⟩ := Sd.at (HS.out.later hB) (mds_get k0 n k hlt)
      simp only [Value.slice.injEq] at he
      obtain ⟨rfl, hxx, rfl⟩ := he
      clear hxx
      obtain ⟨K, hK⟩ : ∃ K : Nat, K = k0 + 5 * k := ⟨_, rfl⟩
      have HK : Hid (K = k0 + 5 * k) := hK
      have hKb : K ≤ 10000000000 := by omega
      have hK1 : 1 ≤ K := by omega
      rw [← hK] at c0 c1 c2 c3 c4 ⊢
      unfold md at c0 c1 c2 c3 c4
      simp only at c0 c1 c2 c3 c4
      have e4 : ((K + 4 : Nat) : Int) = (K : Int) + 1 + 1 + 1 + 1 := by omega
      have e3 : ((K + 3 : Nat) : Int) = (K : Int) + 1 + 1 + 1 := by omega
      have e2 : ((K + 2 : Nat) : Int) = (K : Int) + 1 + 1 := by omega
      have e1 : ((K + 1 : Nat) : Int) = (K : Int) + 1 := by omega
      rw [e1] at c1
      rw [e2] at c2
      rw [e3] at c3
      have hm0 : ∀ W, _ := fun W => mark_text W K (by omega) (by omega)
      have hm4 : ∀ W, _ := fun W => mark_text W (K + 4) (by omega) (by omega)
      rw [e4] at hm4
      have n0 : ((mt K).toList != (mt K).toList) = false := by simp
      have n4 : ((mt (K + 4)).toList != (mt (K + 4)).toList) = false := by simp
      have n1 : ((K : Int) + 1 != (K : Int) + 1) = false := by simp
      have n2 : ((K : Int) + 1 + 1 != (K : Int) + 1 + 1) = false := by simp
      have n3 : ((K : Int) + 1 + 1 + 1 != (K : Int) + 1 + 1 + 1) = false := by simp
      clear hK hml e1 e2 e3 e4
      go_wp2_with fail
      refine wp_region_held_drew (S := fun w' => Below w.heap.size w w' ∧ w'.cell? ⟨b, off + k * 5, none⟩ = some (.string (mt K)) ∧ w'.cell? ⟨b, off + k * 5 + 1, none⟩ = some (.int .i64 ((K : Int) + 1)) ∧ w'.cell? ⟨b, off + k * 5 + 1 + 1, none⟩ = some (.int .i64 ((K : Int) + 1 + 1)) ∧ w'.cell? ⟨b, off + k * 5 + 1 + 2, none⟩ = some (.int .i64 ((K : Int) + 1 + 1 + 1)) ∧ w'.cell? ⟨b, off + k * 5 + 1 + 3, none⟩ = some (.string (mt (K + 4)))) (by kernel_rfl) ⟨Below.drew hB, c0, c1, c2, c3, c4⟩ (fun hHeld => ?_)
      (refine wpAnyH_take (i := 0) (v := ?v0x1) rfl (by kernel_rfl) (by kernel_rfl) (by kernel_rfl) (fun _ _ _ h => h) (Or.inl ⟨by rfl, ?hy0x1⟩) (by assumption) ?rest0x1; case hy0x1 => (intro w hSw; (try dsimp only at hSw); go_split_ands; go_simp; (try with_reducible rfl)))
      try simp only [Act.put, List.setIfInBounds_toArray, List.set_cons_zero, List.set_cons_succ, List.getElem_toArray, List.getElem_cons_zero, List.getElem_cons_succ]
      (refine wpAnyH_take (i := 1) (v := ?v1x2) rfl (by kernel_rfl) (by kernel_rfl) (by kernel_rfl) (fun _ _ _ h => h) (Or.inl ⟨by rfl, ?hy1x2⟩) (by assumption) ?rest1x2; case hy1x2 => (intro w hSw; (try dsimp only at hSw); go_split_ands; go_simp; (try with_reducible rfl)))
      try simp only [Act.put, List.setIfInBounds_toArray, List.set_cons_zero, List.set_cons_succ, List.getElem_toArray, List.getElem_cons_zero, List.getElem_cons_succ]
      (refine wpAnyH_take (i := 2) (v := ?v2x3) rfl (by kernel_rfl) (by kernel_rfl) (by kernel_rfl) (fun _ _ _ h => h) (Or.inl ⟨by rfl, ?hy2x3⟩) (by assumption) ?rest2x3; case hy2x3 => (intro w hSw; (try dsimp only at hSw); go_split_ands; go_simp; (try with_reducible rfl)))
      try simp only [Act.put, List.setIfInBounds_toArray, List.set_cons_zero, List.set_cons_succ, List.getElem_toArray, List.getElem_cons_zero, List.getElem_cons_succ]
      (refine wpAnyH_take (i := 3) (v := ?v3x4) rfl (by kernel_rfl) (by kernel_rfl) (by kernel_rfl) (fun _ _ _ h => h) (Or.inl ⟨by rfl, ?hy3x4⟩) (by assumption) ?rest3x4; case hy3x4 => (intro w hSw; (try dsimp only at hSw); go_split_ands; go_simp; (try with_reducible rfl)))
      try simp only [Act.put, List.setIfInBounds_toArray, List.set_cons_zero, List.set_cons_succ, List.getElem_toArray, List.getElem_cons_zero, List.getElem_cons_succ]
      (refine wpAnyH_take (i := 4) (v := ?v4x5) rfl (by kernel_rfl) (by kernel_rfl) (by kernel_rfl) (fun _ _ _ h => h) (Or.inl ⟨by rfl, ?hy4x5⟩) (by assumption) ?rest4x5; case hy4x5 => (intro w hSw; (try dsimp only at hSw); go_split_ands; go_simp; (try with_reducible rfl)))
      try simp only [Act.put, List.setIfInBounds_toArray, List.set_cons_zero, List.set_cons_succ, List.getElem_toArray, List.getElem_cons_zero, List.getElem_cons_succ]
      (refine wpAnyH_take (i := 5) (v := ?v5x6) rfl (by kernel_rfl) (by kernel_rfl) (by kernel_rfl) (fun _ _ _ h => h) (Or.inl ⟨by rfl, ?hy5x6⟩) (by assumption) ?rest5x6; case hy5x6 => (intro w hSw; (try dsimp only at hSw); go_split_ands; go_simp; (try with_reducible rfl)))
      try simp only [Act.put, List.setIfInBounds_toArray, List.set_cons_zero, List.set_cons_succ, List.getElem_toArray, List.getElem_cons_zero, List.getElem_cons_succ]
      refine wpAnyH_ready (rs := [6]) (by kernel_rfl) (by simp) ?_
      refine AllReadyH.cons rfl (fun K hK => ?_) AllReadyH.nil
      go_simp
      refine (hm0 _).mono ?_
      rintro e wa4 ⟨rfl, ba4⟩
      refine hK.out _ _ ?_ (fun hHeld => ?_)
      · obtain ⟨s, s0, s1, s2, s3, s4⟩ := hHeld; exact ⟨s.trans (ba4.mono s.size), Ver.keepCell s0 ba4, Ver.keepCell s1 ba4, Ver.keepCell s2 ba4, Ver.keepCell s3 ba4, Ver.keepCell s4 ba4⟩
      clear hK K
      try simp only [Act.put, List.setIfInBounds_toArray, List.set_cons_zero, List.set_cons_succ, List.getElem_toArray, List.getElem_cons_zero, List.getElem_cons_succ]
      (refine wpAnyH_take (i := 7) (v := ?v7x7) rfl (by kernel_rfl) (by kernel_rfl) (by kernel_rfl) (fun _ _ _ h => h) (Or.inl ⟨by rfl, ?hy7x7⟩) (by assumption) ?rest7x7; case hy7x7 => (intro w hSw; (try dsimp only at hSw); go_split_ands; go_simp; (try with_reducible rfl)))
      try simp only [Act.put, List.setIfInBounds_toArray, List.set_cons_zero, List.set_cons_succ, List.getElem_toArray, List.getElem_cons_zero, List.getElem_cons_succ]
      refine wpAnyH_done (by kernel_rfl) ?_ _
      replace hB : Below w.heap.size w wa4 := hHeld.1
      replace c0 := hHeld.2.1
      replace c1 := hHeld.2.2.1
      replace c2 := hHeld.2.2.2.1
      replace c3 := hHeld.2.2.2.2.1
      replace c4 := hHeld.2.2.2.2.2
      clear hHeld hm0 ba4
      go_wp2_with fail
      refine wp_region_held_drew (S := fun w' => Below w.heap.size w w' ∧ w'.cell? ⟨b, off + k * 5, none⟩ = some (.string (mt K)) ∧ w'.cell? ⟨b, off + k * 5 + 1, none⟩ = some (.int .i64 ((K : Int) + 1)) ∧ w'.cell? ⟨b, off + k * 5 + 1 + 1, none⟩ = some (.int .i64 ((K : Int) + 1 + 1)) ∧ w'.cell? ⟨b, off + k * 5 + 1 + 2, none⟩ = some (.int .i64 ((K : Int) + 1 + 1 + 1)) ∧ w'.cell? ⟨b, off + k * 5 + 1 + 3, none⟩ = some (.string (mt (K + 4)))) (by kernel_rfl) ⟨Below.drew hB, c0, c1, c2, c3, c4⟩ (fun hHeld => ?_)
      (refine wpAnyH_take (i := 0) (v := ?v0x8) rfl (by kernel_rfl) (by kernel_rfl) (by kernel_rfl) (fun _ _ _ h => h) (Or.inl ⟨by rfl, ?hy0x8⟩) (by assumption) ?rest0x8; case hy0x8 => (intro w hSw; (try dsimp only at hSw); go_split_ands; go_simp; (try with_reducible rfl)))
      try simp only [Act.put, List.setIfInBounds_toArray, List.set_cons_zero, List.set_cons_succ, List.getElem_toArray, List.getElem_cons_zero, List.getElem_cons_succ]
      (refine wpAnyH_take (i := 1) (v := ?v1x9) rfl (by kernel_rfl) (by kernel_rfl) (by kernel_rfl) (fun _ _ _ h => h) (Or.inl ⟨by rfl, ?hy1x9⟩) (by assumption) ?rest1x9; case hy1x9 => (intro w hSw; (try dsimp only at hSw); go_split_ands; go_simp; (try with_reducible rfl)))
      try simp only [Act.put, List.setIfInBounds_toArray, List.set_cons_zero, List.set_cons_succ, List.getElem_toArray, List.getElem_cons_zero, List.getElem_cons_succ]
      (refine wpAnyH_take (i := 2) (v := ?v2x10) rfl (by kernel_rfl) (by kernel_rfl) (by kernel_rfl) (fun _ _ _ h => h) (Or.inl ⟨by rfl, ?hy2x10⟩) (by assumption) ?rest2x10; case hy2x10 => (intro w hSw; (try dsimp only at hSw); go_split_ands; go_simp; (try with_reducible rfl)))
      try simp only [Act.put, List.setIfInBounds_toArray, List.set_cons_zero, List.set_cons_succ, List.getElem_toArray, List.getElem_cons_zero, List.getElem_cons_succ]
      (refine wpAnyH_take (i := 3) (v := ?v3x11) rfl (by kernel_rfl) (by kernel_rfl) (by kernel_rfl) (fun _ _ _ h => h) (Or.inl ⟨by rfl, ?hy3x11⟩) (by assumption) ?rest3x11; case hy3x11 => (intro w hSw; (try dsimp only at hSw); go_split_ands; go_simp; (try with_reducible rfl)))
      try simp only [Act.put, List.setIfInBounds_toArray, List.set_cons_zero, List.set_cons_succ, List.getElem_toArray, List.getElem_cons_zero, List.getElem_cons_succ]
      (refine wpAnyH_take (i := 4) (v := ?v4x12) rfl (by kernel_rfl) (by kernel_rfl) (by kernel_rfl) (fun _ _ _ h => h) (Or.inl ⟨by rfl, ?hy4x12⟩) (by assumption) ?rest4x12; case hy4x12 => (intro w hSw; (try dsimp only at hSw); go_split_ands; go_simp; (try with_reducible rfl)))
      try simp only [Act.put, List.setIfInBounds_toArray, List.set_cons_zero, List.set_cons_succ, List.getElem_toArray, List.getElem_cons_zero, List.getElem_cons_succ]
      (refine wpAnyH_take (i := 5) (v := ?v5x13) rfl (by kernel_rfl) (by kernel_rfl) (by kernel_rfl) (fun _ _ _ h => h) (Or.inl ⟨by rfl, ?hy5x13⟩) (by assumption) ?rest5x13; case hy5x13 => (intro w hSw; (try dsimp only at hSw); go_split_ands; go_simp; (try with_reducible rfl)))
      try simp only [Act.put, List.setIfInBounds_toArray, List.set_cons_zero, List.set_cons_succ, List.getElem_toArray, List.getElem_cons_zero, List.getElem_cons_succ]
      (refine wpAnyH_take (i := 6) (v := ?v6x14) rfl (by kernel_rfl) (by kernel_rfl) (by kernel_rfl) (fun _ _ _ h => h) (Or.inl ⟨by rfl, ?hy6x14⟩) (by assumption) ?rest6x14; case hy6x14 => (intro w hSw; (try dsimp only at hSw); go_split_ands; go_simp; (try with_reducible rfl)))
      try simp only [Act.put, List.setIfInBounds_toArray, List.set_cons_zero, List.set_cons_succ, List.getElem_toArray, List.getElem_cons_zero, List.getElem_cons_succ]
      refine wpAnyH_ready (rs := [7]) (by kernel_rfl) (by simp) ?_
      refine AllReadyH.cons rfl (fun K hK => ?_) AllReadyH.nil
      go_simp
      refine (hm4 _).mono ?_
      rintro e wa16 ⟨rfl, ba16⟩
      refine hK.out _ _ ?_ (fun hHeld => ?_)
      · obtain ⟨s, s0, s1, s2, s3, s4⟩ := hHeld; exact ⟨s.trans (ba16.mono s.size), Ver.keepCell s0 ba16, Ver.keepCell s1 ba16, Ver.keepCell s2 ba16, Ver.keepCell s3 ba16, Ver.keepCell s4 ba16⟩
      clear hK K
      try simp only [Act.put, List.setIfInBounds_toArray, List.set_cons_zero, List.set_cons_succ, List.getElem_toArray, List.getElem_cons_zero, List.getElem_cons_succ]
      (refine wpAnyH_take (i := 8) (v := ?v8x15) rfl (by kernel_rfl) (by kernel_rfl) (by kernel_rfl) (fun _ _ _ h => h) (Or.inl ⟨by rfl, ?hy8x15⟩) (by assumption) ?rest8x15; case hy8x15 => (intro w hSw; (try dsimp only at hSw); go_split_ands; go_simp; (try with_reducible rfl)))
      try simp only [Act.put, List.setIfInBounds_toArray, List.set_cons_zero, List.set_cons_succ, List.getElem_toArray, List.getElem_cons_zero, List.getElem_cons_succ]
      refine wpAnyH_done (by kernel_rfl) ?_ _
      have hB9 : Below w.heap.size w wa16 := hHeld.1
      clear hHeld hm4 ba16 c0 c1 c2 c3 c4 hB
      go_wp2
      go_roundw
      case rel =>
        refine ⟨k + 1, by omega, by go_num, ?_, hB9⟩
        have := HK.out
        go_num
      case measure => simp [intOf]; omega
    · go_wp2
      go_ret
      have hkn : k = n := by omega
      subst hkn
      exact ⟨rfl, hB⟩

end Go.Proofs.YtlhmemnaiobgkaaGreatDoor.Ent
