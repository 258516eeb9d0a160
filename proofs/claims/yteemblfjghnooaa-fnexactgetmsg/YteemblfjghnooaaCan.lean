/- Numbers, texts and lists of texts that are read stand there as they are put; plain facts alone. -/
import Derived.Test.YteemblfjghnooaaPlain3
import Derived.Test.YteemblfjghnooaaSha5
namespace Go.Proofs.Yteemblfjghnooaa.Can
open Go.RowKit Go.Proofs.Yteemblfjghnooaa.Mem Go.Proofs.Yteemblfjghnooaa.Laws Go.Proofs.Yteemblfjghnooaa.Sha
set_option linter.unusedVariables false
set_option linter.unusedSimpArgs false

theorem dec_canon : ∀ (l : List Int) (k : Nat) (N W n : Int) (k' : Nat), Plain.dec k N W l = some (n, k') → Byt l → ∃ m : Nat, n = N + (m : Int) * W ∧ k' = k + (Plain.enc m).length ∧ l = Plain.enc m ++ l.drop (Plain.enc m).length ∧ (0 < k → 0 < m) := by
  intro l
  induction l with
  | nil => intro k N W n k' h; simp [Plain.dec] at h
  | cons c r ih =>
    intro k N W n k' h hb
    have hc : 0 ≤ c ∧ c ≤ 255 := hb c (by simp)
    rw [Plain.dec] at h
    split at h
    · cases h
    · split at h
      · rename_i h5 h128
        obtain ⟨m, hn, hk, hl, hm⟩ := ih _ _ _ _ _ h (fun x hx => hb x (by simp [hx]))
        have hm0 := hm (by omega)
        obtain ⟨d, hd⟩ : ∃ d : Nat, c = (d : Int) := ⟨c.toNat, by omega⟩
        subst hd
        have e1 : (d % 128 + 128 * m) % 128 + 128 = d := by omega
        have e2 : (d % 128 + 128 * m) / 128 = m := by omega
        have henc : Plain.enc (d % 128 + 128 * m) = (d : Int) :: Plain.enc m := by rw [Plain.enc_step (by omega), e1, e2]
        refine ⟨d % 128 + 128 * m, ?_, ?_, ?_, fun _ => by omega⟩
        · rw [hn]
          have : (((d % 128 + 128 * m : Nat) : Int)) = (d : Int) % 128 + 128 * (m : Int) := by omega
          rw [this, Int.add_mul, Int.add_assoc, Int.mul_comm W 128, ← Int.mul_assoc, Int.mul_comm (m : Int) 128]
        · rw [hk, henc, List.length_cons]; omega
        · rw [henc]
          simp only [List.cons_append, List.length_cons, List.drop_succ_cons]
          rw [← hl]
      · split at h
        · cases h
        · rename_i h5 h128 hbad
          simp only [Option.some.injEq, Prod.mk.injEq] at h
          obtain ⟨rfl, rfl⟩ := h
          obtain ⟨d, hd⟩ : ∃ d : Nat, c = (d : Int) := ⟨c.toNat, by omega⟩
          subst hd
          have hd128 : d < 128 := by omega
          have e : (d : Int) % 128 = (d : Int) := by omega
          refine ⟨d, by rw [e], by rw [Plain.enc_small hd128]; rfl, by rw [Plain.enc_small hd128]; simp, fun hk => ?_⟩
          rw [not_or] at hbad
          rw [e] at hbad
          omega

theorem num_enc {n : Int} {m : Nat} (h : n = (m : Int)) (hm : n ≤ 1000000000) : Puts.num n = Plain.enc m := by
  rw [Plain.num_eq, h, Plain.clamp_size (by omega)]
  simp
theorem dec_bd : ∀ (l : List Int) (k : Nat) (N W n : Int) (k' : Nat), Plain.dec k N W l = some (n, k') → n ≤ 1000000000 := by
  intro l
  induction l with
  | nil => intro k N W n k' h; simp [Plain.dec] at h
  | cons c r ih =>
    intro k N W n k' h
    rw [Plain.dec] at h
    split at h
    · cases h
    · split at h
      · exact ih _ _ _ _ _ h
      · split at h
        · cases h
        · rename_i hbad
          simp only [Option.some.injEq, Prod.mk.injEq] at h
          rw [not_or] at hbad
          omega
/-- a number that is read stands there as it is put -/
theorem getNum_canon {xs : List Int} {a : Nat} {n p : Int} (hb : Byt xs) (h : Plain.getNum xs (a : Int) = (n, p, true)) : ∃ q : Nat, p = (q : Int) ∧ 0 ≤ n ∧ n ≤ 1000000000 ∧ a ≤ xs.length ∧ xs.drop a = Puts.num n ++ xs.drop q := by
  unfold Plain.getNum at h
  split at h
  · rename_i hc
    rw [show ((a : Int)).toNat = a from rfl] at h
    split at h
    · rename_i n' k hd
      simp only [Prod.mk.injEq, and_true] at h
      obtain ⟨rfl, rfl⟩ := h
      obtain ⟨m, hn, hk, hl, _⟩ := dec_canon _ _ _ _ _ _ hd (fun x hx => hb x (List.mem_of_mem_drop hx))
      have h9 := dec_bd _ _ _ _ _ _ hd
      have hn' : n' = (m : Int) := by omega
      refine ⟨a + k, by omega, by omega, h9, by omega, ?_⟩
      rw [num_enc hn' h9]
      have hk' : k = (Plain.enc m).length := by omega
      rw [← List.drop_drop, hk']
      exact hl
    · simp at h
  · simp at h
theorem getText_canon {xs : List Int} {a : Nat} {s : ByteArray} {p : Int} (hb : Byt xs) (h : Plain.getText xs (a : Int) = (s, p, true)) : ∃ q : Nat, p = (q : Int) ∧ s.size ≤ 1000000000 ∧ xs.drop a = Puts.tx s ++ xs.drop q := by
  unfold Plain.getText at h
  split at h
  · rename_i hc
    obtain ⟨n, q, ok, hg⟩ : ∃ n q ok, Plain.getNum xs (a : Int) = (n, q, ok) := ⟨_, _, _, rfl⟩
    rw [hg] at h hc
    simp only at h hc
    obtain ⟨rfl, hc2⟩ := hc
    simp only [Prod.mk.injEq, and_true] at h
    obtain ⟨rfl, rfl⟩ := h
    obtain ⟨q', rfl, hn0, hn9, _, hd⟩ := getNum_canon hb hg
    obtain ⟨m, rfl⟩ : ∃ m : Nat, n = (m : Int) := ⟨n.toNat, by omega⟩
    have hsz : (Plain.txt ((xs.drop ((q' : Int)).toNat).take ((m : Int)).toNat)).size = m := by
      rw [txt_size]
      simp
      omega
    have hsb : sb (Plain.txt ((xs.drop ((q' : Int)).toNat).take ((m : Int)).toNat)) = (xs.drop q').take m := by
      rw [sb_txt (fun x hx => hb x (List.mem_of_mem_drop (List.mem_of_mem_take hx)))]
      rfl
    refine ⟨q' + m, by omega, by omega, ?_⟩
    unfold Puts.tx
    rw [hsz, hsb, hd, List.append_assoc, ← List.drop_drop, List.take_append_drop]
  · simp at h
theorem rd_canon {xs : List Int} (hb : Byt xs) : ∀ (n a : Nat) (l : List ByteArray) (p : Int), Plain.rd xs n (a : Int) = some (l, p) → ∃ q : Nat, p = (q : Int) ∧ l.length = n ∧ xs.drop a = Puts.txs l ++ xs.drop q := by
  intro n
  induction n with
  | zero =>
    intro a l p h
    simp [Plain.rd] at h
    obtain ⟨rfl, rfl⟩ := h
    exact ⟨a, rfl, rfl, rfl⟩
  | succ n ih =>
    intro a l p h
    rw [Plain.rd] at h
    split at h
    · rename_i hok
      obtain ⟨s, q, ok, hg⟩ : ∃ s q ok, Plain.getText xs (a : Int) = (s, q, ok) := ⟨_, _, _, rfl⟩
      rw [hg] at h hok
      simp only at h hok
      subst hok
      obtain ⟨q', rfl, _, hd⟩ := getText_canon hb hg
      rw [Option.map_eq_some_iff] at h
      obtain ⟨⟨l2, q2⟩, h1, h2⟩ := h
      simp only [Prod.mk.injEq] at h2
      obtain ⟨rfl, rfl⟩ := h2
      obtain ⟨q3, hq3, hl3, hd3⟩ := ih _ _ _ h1
      refine ⟨q3, hq3, by simp [hl3], ?_⟩
      rw [hd, hd3]
      simp [Puts.txs]
    · cases h
theorem getTexts_canon {xs : List Int} {a : Nat} {l : List ByteArray} {p : Int} (hb : Byt xs) (h : Plain.getTexts xs (a : Int) = (l, p, true)) : ∃ q : Nat, p = (q : Int) ∧ xs.drop a = Puts.num (l.length : Int) ++ Puts.txs l ++ xs.drop q := by
  unfold Plain.getTexts at h
  split at h
  · rename_i hc
    obtain ⟨n, q, ok, hg⟩ : ∃ n q ok, Plain.getNum xs (a : Int) = (n, q, ok) := ⟨_, _, _, rfl⟩
    rw [hg] at h hc
    simp only at h hc
    obtain ⟨rfl, hc2⟩ := hc
    obtain ⟨q', rfl, hn0, hn9, _, hd⟩ := getNum_canon hb hg
    obtain ⟨m, rfl⟩ : ∃ m : Nat, n = (m : Int) := ⟨n.toNat, by omega⟩
    split at h
    · rename_i l' q2 hr
      simp only [Prod.mk.injEq, and_true] at h
      obtain ⟨rfl, rfl⟩ := h
      obtain ⟨q3, hq3, hl3, hd3⟩ := rd_canon hb _ _ _ _ hr
      refine ⟨q3, hq3, ?_⟩
      have : l'.length = m := by rw [hl3]; rfl
      rw [hd, hd3, this, List.append_assoc]
    · simp at h
  · simp at h

end Go.Proofs.Yteemblfjghnooaa.Can
