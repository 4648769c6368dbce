package machine

import (
	"scutage/api"
	"scutage/bank"
	"scutage/config"
	"scutage/ledger"
)

// purse is what the collector's work is paid from: the bank, and threads' own time.
type purse struct {
	letters *ledger.Ledger
	bank    *bank.Bank
}

// newPurse has an empty bank, and no thread's time was spent.
func newPurse(c api.Config) purse {
	return purse{letters: ledger.New(c.Threads, c.Window, config.Most(c)), bank: bank.New(c.Cap)}
}

// credit is how many of these units the bank can pay.
func (p *purse) credit(units int) int {
	return min(units, p.bank.Balance())
}

// spend lets the bank pay so many units.
func (p *purse) spend(units int) {
	p.bank.Spend(units)
}

// save gives the bank so many units, which were worked.
func (p *purse) save(units int) {
	p.bank.Put(units)
}

// admits tells whether so many units, at that cost, may be worked in t's time.
func (p *purse) admits(t int, units int, cost int) bool {
	return p.letters.Admit(t, units*cost)
}

// charge tells that so many units, at that cost, were worked in t's time, no more than it admits.
func (p *purse) charge(t int, units int, cost int) {
	p.letters.Work(t, units*cost)
}

// lived tells that t had so many ticks of its own.
func (p *purse) lived(t int, ticks int) {
	p.letters.Run(t, ticks)
}
